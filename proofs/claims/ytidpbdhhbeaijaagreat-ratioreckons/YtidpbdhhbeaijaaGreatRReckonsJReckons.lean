/- The walk of suretylaw02.RatioReckons: it answers true at every input. -/
import Derived.Test.YtidpbdhhbeaijaaGreatL0JReckons
import Derived.Test.YtidpbdhhbeaijaaGreatSame2JReckons
import Derived.Test.YtidpbdhhbeaijaaGreatR4JReckons
namespace Go.Proofs.YtidpbdhhbeaijaaGreat
open Go.RowKit

set_option maxRecDepth 20000 in
set_option maxHeartbeats 16000000 in
theorem ratioReckons_any (s t : ByteArray) (w : World) (hs : s.size ≤ maxLen) (ht : t.size ≤ maxLen) :
    Calls Tryz.prog 3 #[.string s, .string t] w fun e w' => e = .returned (.bool true) ∧ Below w.heap.size w w' := by
  have hbw := Below.refl w.heap.size w
  go_enter Tryz.func3, Tryz.ntmps3
  go_wp2_with fail
  refine (awake2_any _).mono ?_
  rintro e w1 ⟨rfl, hb⟩
  replace hbw := hbw.step hb (Nat.le_refl _)
  clear hb
  go_wp2_with fail
  refine (rat_any s _ hs).mono ?_
  rintro e w2 ⟨q, xA, aA, nA, cA, yA, eA, mA, fA, xAr, aAr, nAr, cAr, yAr, eAr, mAr, fAr, rfl, hA, hAr, hb⟩
  replace hbw := hbw.step hb (Nat.le_refl _)
  clear hb
  have hn := below_new w2 (.cells #[.bool xA, .slice aA nA cA, .bool yA, .slice eA mA fA] 27 (0, 0))
  have oA := Blk.new w2 27 #[.bool xA, .slice aA nA cA, .bool yA, .slice eA mA fA]
  have lwA : w.heap.size ≤ w2.heap.size := hbw.size
  replace hA := hA.below hn
  replace hAr := hAr.below hn
  replace hbw := hbw.step hn (Nat.le_refl _)
  clear hn
  have ltA := oA.lt
  have hn := below_new (w2.alloc (.cells #[.bool xA, .slice aA nA cA, .bool yA, .slice eA mA fA] 27 (0, 0))) (.cells #[.bool xAr, .slice aAr nAr cAr, .bool yAr, .slice eAr mAr fAr] 32 (0, 0))
  have oAr := Blk.new (w2.alloc (.cells #[.bool xA, .slice aA nA cA, .bool yA, .slice eA mA fA] 27 (0, 0))) 32 #[.bool xAr, .slice aAr nAr cAr, .bool yAr, .slice eAr mAr fAr]
  simp only [World.size_alloc] at oAr
  have neAAr : w2.heap.size ≠ w2.heap.size + 1 := by have := ltA; simp at this; omega
  replace oA := oA.stay hn
  replace ltA := oA.lt
  replace hA := hA.below hn
  replace hAr := hAr.below hn
  replace hbw := hbw.step hn (Nat.le_refl _)
  clear hn
  have ltAr := oAr.lt
  go_wp2_with fail
  refine (rat_any t _ ht).mono ?_
  rintro e w3 ⟨p, xC, aC, nC, cC, yC, eC, mC, fC, xCr, aCr, nCr, cCr, yCr, eCr, mCr, fCr, rfl, hC, hCr, hb⟩
  replace oA := oA.stay hb
  replace ltA := oA.lt
  replace oAr := oAr.stay hb
  replace ltAr := oAr.lt
  replace hA := hA.below hb
  replace hAr := hAr.below hb
  replace hbw := hbw.step hb (Nat.le_refl _)
  clear hb
  have hn := below_new w3 (.cells #[.bool xC, .slice aC nC cC, .bool yC, .slice eC mC fC] 27 (0, 0))
  have oC := Blk.new w3 27 #[.bool xC, .slice aC nC cC, .bool yC, .slice eC mC fC]
  have neAC : w2.heap.size ≠ w3.heap.size := Nat.ne_of_lt ltA
  have neArC : w2.heap.size + 1 ≠ w3.heap.size := Nat.ne_of_lt ltAr
  have lwC : w.heap.size ≤ w3.heap.size := hbw.size
  replace oA := oA.stay hn
  replace ltA := oA.lt
  replace oAr := oAr.stay hn
  replace ltAr := oAr.lt
  replace hA := hA.below hn
  replace hAr := hAr.below hn
  replace hC := hC.below hn
  replace hCr := hCr.below hn
  replace hbw := hbw.step hn (Nat.le_refl _)
  clear hn
  have ltC := oC.lt
  have hn := below_new (w3.alloc (.cells #[.bool xC, .slice aC nC cC, .bool yC, .slice eC mC fC] 27 (0, 0))) (.cells #[.bool xCr, .slice aCr nCr cCr, .bool yCr, .slice eCr mCr fCr] 32 (0, 0))
  have oCr := Blk.new (w3.alloc (.cells #[.bool xC, .slice aC nC cC, .bool yC, .slice eC mC fC] 27 (0, 0))) 32 #[.bool xCr, .slice aCr nCr cCr, .bool yCr, .slice eCr mCr fCr]
  simp only [World.size_alloc] at oCr
  have neACr : w2.heap.size ≠ w3.heap.size + 1 := by have := ltA; simp at this; omega
  have neArCr : w2.heap.size + 1 ≠ w3.heap.size + 1 := by have := ltAr; simp at this; omega
  have neCCr : w3.heap.size ≠ w3.heap.size + 1 := by have := ltC; simp at this; omega
  replace oA := oA.stay hn
  replace ltA := oA.lt
  replace oAr := oAr.stay hn
  replace ltAr := oAr.lt
  replace oC := oC.stay hn
  replace ltC := oC.lt
  replace hA := hA.below hn
  replace hAr := hAr.below hn
  replace hC := hC.below hn
  replace hCr := hCr.below hn
  replace hbw := hbw.step hn (Nat.le_refl _)
  clear hn
  have ltCr := oCr.lt
  have HZ : Hid _ := hC.lt
  obtain ⟨Ac0, Ac1, Ac2, Ac3⟩ := oA.four
  obtain ⟨Aq0, Aq1, Aq2, Aq3⟩ := oA.frozen4
  obtain ⟨Cc0, Cc1, Cc2, Cc3⟩ := oC.four
  obtain ⟨Cq0, Cq1, Cq2, Cq3⟩ := oC.frozen4
  go_wp2_with fail
  refine (qadd_any _ _ q p _ hA.val hC.val).mono ?_
  rintro e w4 ⟨i1, i2, i3, i4, i5, i6, i7, i8, rfl, hP, hb⟩
  clear Ac0 Ac1 Ac2 Ac3 Aq0 Aq1 Aq2 Aq3
  clear Cc0 Cc1 Cc2 Cc3 Cq0 Cq1 Cq2 Cq3
  replace oA := oA.stay hb
  replace ltA := oA.lt
  replace oAr := oAr.stay hb
  replace ltAr := oAr.lt
  replace oC := oC.stay hb
  replace ltC := oC.lt
  replace oCr := oCr.stay hb
  replace ltCr := oCr.lt
  replace hA := hA.below hb
  replace hAr := hAr.below hb
  replace hC := hC.below hb
  replace hCr := hCr.below hb
  replace hbw := hbw.step hb (Nat.le_refl _)
  clear hb
  have hn := below_new w4 (.cells #[.bool i1, .slice i2 i3 i4, .bool i5, .slice i6 i7 i8] 27 (0, 0))
  have oP := Blk.new w4 27 #[.bool i1, .slice i2 i3 i4, .bool i5, .slice i6 i7 i8]
  have neAP : w2.heap.size ≠ w4.heap.size := Nat.ne_of_lt ltA
  have neArP : w2.heap.size + 1 ≠ w4.heap.size := Nat.ne_of_lt ltAr
  have neCP : w3.heap.size ≠ w4.heap.size := Nat.ne_of_lt ltC
  have neCrP : w3.heap.size + 1 ≠ w4.heap.size := Nat.ne_of_lt ltCr
  have lwP : w.heap.size ≤ w4.heap.size := hbw.size
  replace oA := oA.stay hn
  replace ltA := oA.lt
  replace oAr := oAr.stay hn
  replace ltAr := oAr.lt
  replace oC := oC.stay hn
  replace ltC := oC.lt
  replace oCr := oCr.stay hn
  replace ltCr := oCr.lt
  replace hA := hA.below hn
  replace hAr := hAr.below hn
  replace hC := hC.below hn
  replace hCr := hCr.below hn
  replace hP := hP.below hn
  replace hbw := hbw.step hn (Nat.le_refl _)
  clear hn
  have ltP := oP.lt
  obtain ⟨Ac0, Ac1, Ac2, Ac3⟩ := oA.four
  obtain ⟨Aq0, Aq1, Aq2, Aq3⟩ := oA.frozen4
  obtain ⟨Cc0, Cc1, Cc2, Cc3⟩ := oC.four
  obtain ⟨Cq0, Cq1, Cq2, Cq3⟩ := oC.frozen4
  go_wp2_with fail
  refine (qsub_any _ _ q p _ hA.val hC.val).mono ?_
  rintro e w5 ⟨j1, j2, j3, j4, j5, j6, j7, j8, rfl, hQ, hb⟩
  clear Ac0 Ac1 Ac2 Ac3 Aq0 Aq1 Aq2 Aq3
  clear Cc0 Cc1 Cc2 Cc3 Cq0 Cq1 Cq2 Cq3
  replace oA := oA.stay hb
  replace ltA := oA.lt
  replace oAr := oAr.stay hb
  replace ltAr := oAr.lt
  replace oC := oC.stay hb
  replace ltC := oC.lt
  replace oCr := oCr.stay hb
  replace ltCr := oCr.lt
  replace oP := oP.stay hb
  replace ltP := oP.lt
  replace hA := hA.below hb
  replace hAr := hAr.below hb
  replace hC := hC.below hb
  replace hCr := hCr.below hb
  replace hP := hP.below hb
  replace hbw := hbw.step hb (Nat.le_refl _)
  clear hb
  have hn := below_new w5 (.cells #[.bool j1, .slice j2 j3 j4, .bool j5, .slice j6 j7 j8] 27 (0, 0))
  have oQ := Blk.new w5 27 #[.bool j1, .slice j2 j3 j4, .bool j5, .slice j6 j7 j8]
  have neAQ : w2.heap.size ≠ w5.heap.size := Nat.ne_of_lt ltA
  have neArQ : w2.heap.size + 1 ≠ w5.heap.size := Nat.ne_of_lt ltAr
  have neCQ : w3.heap.size ≠ w5.heap.size := Nat.ne_of_lt ltC
  have neCrQ : w3.heap.size + 1 ≠ w5.heap.size := Nat.ne_of_lt ltCr
  have nePQ : w4.heap.size ≠ w5.heap.size := Nat.ne_of_lt ltP
  have lwQ : w.heap.size ≤ w5.heap.size := hbw.size
  replace oA := oA.stay hn
  replace ltA := oA.lt
  replace oAr := oAr.stay hn
  replace ltAr := oAr.lt
  replace oC := oC.stay hn
  replace ltC := oC.lt
  replace oCr := oCr.stay hn
  replace ltCr := oCr.lt
  replace oP := oP.stay hn
  replace ltP := oP.lt
  replace hA := hA.below hn
  replace hAr := hAr.below hn
  replace hC := hC.below hn
  replace hCr := hCr.below hn
  replace hP := hP.below hn
  replace hQ := hQ.below hn
  replace hbw := hbw.step hn (Nat.le_refl _)
  clear hn
  have ltQ := oQ.lt
  obtain ⟨Ac0, Ac1, Ac2, Ac3⟩ := oA.four
  obtain ⟨Aq0, Aq1, Aq2, Aq3⟩ := oA.frozen4
  obtain ⟨Cc0, Cc1, Cc2, Cc3⟩ := oC.four
  obtain ⟨Cq0, Cq1, Cq2, Cq3⟩ := oC.frozen4
  go_wp2_with fail
  refine (qmul_any _ _ q p _ hA.val hC.val).mono ?_
  rintro e w6 ⟨k1, k2, k3, k4, k5, k6, k7, k8, rfl, hR, hb⟩
  clear Ac0 Ac1 Ac2 Ac3 Aq0 Aq1 Aq2 Aq3
  clear Cc0 Cc1 Cc2 Cc3 Cq0 Cq1 Cq2 Cq3
  replace oA := oA.stay hb
  replace ltA := oA.lt
  replace oAr := oAr.stay hb
  replace ltAr := oAr.lt
  replace oC := oC.stay hb
  replace ltC := oC.lt
  replace oCr := oCr.stay hb
  replace ltCr := oCr.lt
  replace oP := oP.stay hb
  replace ltP := oP.lt
  replace oQ := oQ.stay hb
  replace ltQ := oQ.lt
  replace hA := hA.below hb
  replace hAr := hAr.below hb
  replace hC := hC.below hb
  replace hCr := hCr.below hb
  replace hP := hP.below hb
  replace hQ := hQ.below hb
  replace hbw := hbw.step hb (Nat.le_refl _)
  clear hb
  have hn := below_new w6 (.cells #[.bool k1, .slice k2 k3 k4, .bool k5, .slice k6 k7 k8] 27 (0, 0))
  have oR := Blk.new w6 27 #[.bool k1, .slice k2 k3 k4, .bool k5, .slice k6 k7 k8]
  have neAR : w2.heap.size ≠ w6.heap.size := Nat.ne_of_lt ltA
  have neArR : w2.heap.size + 1 ≠ w6.heap.size := Nat.ne_of_lt ltAr
  have neCR : w3.heap.size ≠ w6.heap.size := Nat.ne_of_lt ltC
  have neCrR : w3.heap.size + 1 ≠ w6.heap.size := Nat.ne_of_lt ltCr
  have nePR : w4.heap.size ≠ w6.heap.size := Nat.ne_of_lt ltP
  have neQR : w5.heap.size ≠ w6.heap.size := Nat.ne_of_lt ltQ
  have lwR : w.heap.size ≤ w6.heap.size := hbw.size
  replace oA := oA.stay hn
  replace ltA := oA.lt
  replace oAr := oAr.stay hn
  replace ltAr := oAr.lt
  replace oC := oC.stay hn
  replace ltC := oC.lt
  replace oCr := oCr.stay hn
  replace ltCr := oCr.lt
  replace oP := oP.stay hn
  replace ltP := oP.lt
  replace oQ := oQ.stay hn
  replace ltQ := oQ.lt
  replace hA := hA.below hn
  replace hAr := hAr.below hn
  replace hC := hC.below hn
  replace hCr := hCr.below hn
  replace hP := hP.below hn
  replace hQ := hQ.below hn
  replace hR := hR.below hn
  replace hbw := hbw.step hn (Nat.le_refl _)
  clear hn
  have ltR := oR.lt
  obtain ⟨Ac0, Ac1, Ac2, Ac3⟩ := oA.four
  obtain ⟨Aq0, Aq1, Aq2, Aq3⟩ := oA.frozen4
  obtain ⟨Cc0, Cc1, Cc2, Cc3⟩ := oC.four
  obtain ⟨Cq0, Cq1, Cq2, Cq3⟩ := oC.frozen4
  go_wp2_with fail
  refine (quo_any _ _ q p _ hA.val hC.val).mono ?_
  rintro e w7 ⟨l1, l2, l3, l4, l5, l6, l7, l8, rfl, hU, hb⟩
  clear Ac0 Ac1 Ac2 Ac3 Aq0 Aq1 Aq2 Aq3
  clear Cc0 Cc1 Cc2 Cc3 Cq0 Cq1 Cq2 Cq3
  replace oA := oA.stay hb
  replace ltA := oA.lt
  replace oAr := oAr.stay hb
  replace ltAr := oAr.lt
  replace oC := oC.stay hb
  replace ltC := oC.lt
  replace oCr := oCr.stay hb
  replace ltCr := oCr.lt
  replace oP := oP.stay hb
  replace ltP := oP.lt
  replace oQ := oQ.stay hb
  replace ltQ := oQ.lt
  replace oR := oR.stay hb
  replace ltR := oR.lt
  replace hA := hA.below hb
  replace hAr := hAr.below hb
  replace hC := hC.below hb
  replace hCr := hCr.below hb
  replace hP := hP.below hb
  replace hQ := hQ.below hb
  replace hR := hR.below hb
  replace hbw := hbw.step hb (Nat.le_refl _)
  clear hb
  have hn := below_new w7 (.cells #[.bool l1, .slice l2 l3 l4, .bool l5, .slice l6 l7 l8] 27 (0, 0))
  have oU := Blk.new w7 27 #[.bool l1, .slice l2 l3 l4, .bool l5, .slice l6 l7 l8]
  have neAU : w2.heap.size ≠ w7.heap.size := Nat.ne_of_lt ltA
  have neArU : w2.heap.size + 1 ≠ w7.heap.size := Nat.ne_of_lt ltAr
  have neCU : w3.heap.size ≠ w7.heap.size := Nat.ne_of_lt ltC
  have neCrU : w3.heap.size + 1 ≠ w7.heap.size := Nat.ne_of_lt ltCr
  have nePU : w4.heap.size ≠ w7.heap.size := Nat.ne_of_lt ltP
  have neQU : w5.heap.size ≠ w7.heap.size := Nat.ne_of_lt ltQ
  have neRU : w6.heap.size ≠ w7.heap.size := Nat.ne_of_lt ltR
  have lwU : w.heap.size ≤ w7.heap.size := hbw.size
  replace oA := oA.stay hn
  replace ltA := oA.lt
  replace oAr := oAr.stay hn
  replace ltAr := oAr.lt
  replace oC := oC.stay hn
  replace ltC := oC.lt
  replace oCr := oCr.stay hn
  replace ltCr := oCr.lt
  replace oP := oP.stay hn
  replace ltP := oP.lt
  replace oQ := oQ.stay hn
  replace ltQ := oQ.lt
  replace oR := oR.stay hn
  replace ltR := oR.lt
  replace hA := hA.below hn
  replace hAr := hAr.below hn
  replace hC := hC.below hn
  replace hCr := hCr.below hn
  replace hP := hP.below hn
  replace hQ := hQ.below hn
  replace hR := hR.below hn
  replace hU := hU.below hn
  replace hbw := hbw.step hn (Nat.le_refl _)
  clear hn
  have ltU := oU.lt
  obtain ⟨Arc0, Arc1, Arc2, Arc3⟩ := oAr.four
  obtain ⟨Arq0, Arq1, Arq2, Arq3⟩ := oAr.frozen4
  obtain ⟨Crc0, Crc1, Crc2, Crc3⟩ := oCr.four
  obtain ⟨Crq0, Crq1, Crq2, Crq3⟩ := oCr.frozen4
  go_wp2_with fail
  refine (rqadd_any _ _ q p _ hAr.val hCr.val).mono ?_
  rintro e w8 ⟨o1, o2, o3, o4, o5, o6, o7, o8, rfl, hI, hb⟩
  clear Arc0 Arc1 Arc2 Arc3 Arq0 Arq1 Arq2 Arq3
  clear Crc0 Crc1 Crc2 Crc3 Crq0 Crq1 Crq2 Crq3
  replace oA := oA.stay hb
  replace ltA := oA.lt
  replace oAr := oAr.stay hb
  replace ltAr := oAr.lt
  replace oC := oC.stay hb
  replace ltC := oC.lt
  replace oCr := oCr.stay hb
  replace ltCr := oCr.lt
  replace oP := oP.stay hb
  replace ltP := oP.lt
  replace oQ := oQ.stay hb
  replace ltQ := oQ.lt
  replace oR := oR.stay hb
  replace ltR := oR.lt
  replace oU := oU.stay hb
  replace ltU := oU.lt
  replace hA := hA.below hb
  replace hAr := hAr.below hb
  replace hC := hC.below hb
  replace hCr := hCr.below hb
  replace hP := hP.below hb
  replace hQ := hQ.below hb
  replace hR := hR.below hb
  replace hU := hU.below hb
  replace hbw := hbw.step hb (Nat.le_refl _)
  clear hb
  have hn := below_new w8 (.cells #[.bool o1, .slice o2 o3 o4, .bool o5, .slice o6 o7 o8] 32 (0, 0))
  have oI := Blk.new w8 32 #[.bool o1, .slice o2 o3 o4, .bool o5, .slice o6 o7 o8]
  have neAI : w2.heap.size ≠ w8.heap.size := Nat.ne_of_lt ltA
  have neArI : w2.heap.size + 1 ≠ w8.heap.size := Nat.ne_of_lt ltAr
  have neCI : w3.heap.size ≠ w8.heap.size := Nat.ne_of_lt ltC
  have neCrI : w3.heap.size + 1 ≠ w8.heap.size := Nat.ne_of_lt ltCr
  have nePI : w4.heap.size ≠ w8.heap.size := Nat.ne_of_lt ltP
  have neQI : w5.heap.size ≠ w8.heap.size := Nat.ne_of_lt ltQ
  have neRI : w6.heap.size ≠ w8.heap.size := Nat.ne_of_lt ltR
  have neUI : w7.heap.size ≠ w8.heap.size := Nat.ne_of_lt ltU
  have lwI : w.heap.size ≤ w8.heap.size := hbw.size
  replace oA := oA.stay hn
  replace ltA := oA.lt
  replace oAr := oAr.stay hn
  replace ltAr := oAr.lt
  replace oC := oC.stay hn
  replace ltC := oC.lt
  replace oCr := oCr.stay hn
  replace ltCr := oCr.lt
  replace oP := oP.stay hn
  replace ltP := oP.lt
  replace oQ := oQ.stay hn
  replace ltQ := oQ.lt
  replace oR := oR.stay hn
  replace ltR := oR.lt
  replace oU := oU.stay hn
  replace ltU := oU.lt
  replace hA := hA.below hn
  replace hAr := hAr.below hn
  replace hC := hC.below hn
  replace hCr := hCr.below hn
  replace hP := hP.below hn
  replace hQ := hQ.below hn
  replace hR := hR.below hn
  replace hU := hU.below hn
  replace hI := hI.below hn
  replace hbw := hbw.step hn (Nat.le_refl _)
  clear hn
  have ltI := oI.lt
  go_wp2
  generalize (w8.alloc (.cells #[.bool o1, .slice o2 o3 o4, .bool o5, .slice o6 o7 o8] 32 (0, 0))) = W8 at hbw oA oAr oC oCr oP oQ oR oU oI ltA ltAr ltC ltCr ltP ltQ ltR ltU ltI hA hAr hC hCr hP hQ hR hU hI ⊢
  refine wp_region_M (by kernel_rfl) [19, 20, 67, 68, 69, 70, 71, 72, 73] [none, none, none, none, none, none, none, none, none, none, none, none, none, none, none, none, none, none, none, some 19, some 20, none, none, none, none, none, none, none, none, none, none, none, none, none, none, none, none, none, none, none, none, none, none, none, none, none, none, none, none, none, none, none, none, none, none, none, none, none, none, none, none, none, none, none, none, none, none, some 67, some 68, some 69, some 70, some 71, some 72, some 73] (fun U => by kernel_rfl) (fun L U wr => Below w.heap.size w wr ∧ KeepI W8 wr ∧ W8.heap.size ≤ wr.heap.size ∧ Blk 32 wr (w2.heap.size + 1) #[.bool xAr, .slice aAr nAr cAr, .bool yAr, .slice eAr mAr fAr] ∧ Blk 32 wr (w3.heap.size + 1) #[.bool xCr, .slice aCr nCr cCr, .bool yCr, .slice eCr mCr fCr] ∧ Blk 27 wr (w4.heap.size) #[.bool i1, .slice i2 i3 i4, .bool i5, .slice i6 i7 i8] ∧ Blk 27 wr (w5.heap.size) #[.bool j1, .slice j2 j3 j4, .bool j5, .slice j6 j7 j8] ∧ Blk 27 wr (w6.heap.size) #[.bool k1, .slice k2 k3 k4, .bool k5, .slice k6 k7 k8] ∧ Blk 27 wr (w7.heap.size) #[.bool l1, .slice l2 l3 l4, .bool l5, .slice l6 l7 l8] ∧ Blk 32 wr (w8.heap.size) #[.bool o1, .slice o2 o3 o4, .bool o5, .slice o6 o7 o8] ∧ (L 0 = true → IS (.agg #[.bool xAr, .slice aAr nAr cAr, .bool yAr, .slice eAr mAr fAr]) (U 68) wr) ∧ (L 1 = true → IS (.agg #[.bool xCr, .slice aCr nCr cCr, .bool yCr, .slice eCr mCr fCr]) (U 69) wr) ∧ (L 2 = true → RRT (-p) 400 (U 70) wr) ∧ (L 3 = true → T2 (RRT (addZ q (-p)) 400) (IS (.int .i64 (addC q (-p)))) (U 71) wr) ∧ (L 4 = true → T2 (RRT (addZ q (-p)) 400) (IS (.int .i64 (addC q (-p)))) (U 67) wr) ∧ (L 5 = true → RRT (addZ q (-p)) 400 (U 72) wr) ∧ (L 6 = true → IS (.int .i64 (addC q (-p))) (U 73) wr) ∧ (L 7 = true → NEW 32 W8.heap.size wr (U 19) (bif L 8 then U 72 else .agg #[.bool false, .slice none 0 0, .bool false, .slice none 0 0])) ∧ (L 9 = true → IS (.int .i64 (addC q (-p))) (U 20) wr) ∧ (L 8 = true → L 5 = true) ∧ (L 8 = true → L 7 = true)) (by kernel_rfl) ?_ ?_ ?_
  · exact fun U => ⟨hbw.drew, KeepI.below (Below.refl _ _).drew, Nat.le_refl _, oAr.drew, oCr.drew, oP.drew, oQ.drew, oR.drew, oU.drew, oI.drew, (fun h => by cases h), (fun h => by cases h), (fun h => by cases h), (fun h => by cases h), (fun h => by cases h), (fun h => by cases h), (fun h => by cases h), (fun h => by cases h), (fun h => by cases h), (fun h => by cases h), (fun h => by cases h)⟩
  · refine StepsU.run rfl ?_ ?_
    · intro L U wr hF hlk haf A K hA hK
      have HA : Hid (A = putAll _ _ U) := hA
      clear hA
      simp [Aft, Region.binds] at haf
      obtain ⟨fb, fk, fs, oAr, oCr, oP, oQ, oR, oU, oI, f0, f1, f2, f3, f4, f5, f6, f7, f9, s8, m7⟩ := hF
      have e6 : A.tmps[6]? = some (.pointer (some ⟨w2.heap.size + 1, 0, none⟩)) := by rw [HA.out]; kernel_rfl
      obtain ⟨c0, c1, c2, c3⟩ := oAr.four
      refine ⟨?_⟩
      go_simp
      refine hK (upd U 68 (.agg #[.bool xAr, .slice aAr nAr cAr, .bool yAr, .slice eAr mAr fAr])) _ _ ?_ ?_
      · rw [HA.out]; kernel_rfl
      · exact ⟨fb, fk, fs, oAr, oCr, oP, oQ, oR, oU, oI, (fun _ => rfl), f1, f2, f3, f4, f5, f6, f7, f9, s8, m7⟩
    refine StepsU.run rfl ?_ ?_
    · intro L U wr hF hlk haf A K hA hK
      have HA : Hid (A = putAll _ _ U) := hA
      clear hA
      simp [Aft, Region.binds] at haf
      obtain ⟨fb, fk, fs, oAr, oCr, oP, oQ, oR, oU, oI, f0, f1, f2, f3, f4, f5, f6, f7, f9, s8, m7⟩ := hF
      have e8 : A.tmps[8]? = some (.pointer (some ⟨w3.heap.size + 1, 0, none⟩)) := by rw [HA.out]; kernel_rfl
      obtain ⟨c0, c1, c2, c3⟩ := oCr.four
      refine ⟨?_⟩
      go_simp
      refine hK (upd U 69 (.agg #[.bool xCr, .slice aCr nCr cCr, .bool yCr, .slice eCr mCr fCr])) _ _ ?_ ?_
      · rw [HA.out]; kernel_rfl
      · exact ⟨fb, fk, fs, oAr, oCr, oP, oQ, oR, oU, oI, f0, (fun _ => rfl), f2, f3, f4, f5, f6, f7, f9, s8, m7⟩
    refine StepsU.run rfl ?_ ?_
    · intro L U wr hF hlk haf A K hA hK
      have HA : Hid (A = putAll _ _ U) := hA
      clear hA
      simp [Aft, Region.binds] at haf
      obtain ⟨fb, fk, fs, oAr, oCr, oP, oQ, oR, oU, oI, f0, f1, f2, f3, f4, f5, f6, f7, f9, s8, m7⟩ := hF
      have g1 := f1 (by simp [haf])
      have e69 := rd HA.out 69 (by kernel_rfl) g1
      refine ⟨?_⟩
      go_simp
      refine (rqneg_any _ p 400 _ (hCr.val.keepI fk) (by decide)).mono ?_
      rintro e w1 ⟨z1, z2, z3, z4, z5, z6, z7, z8, rfl, hr, hb⟩
      go_simp
      refine hK (upd U 70 (.agg #[.bool z1, .slice z2 z3 z4, .bool z5, .slice z6 z7 z8])) _ _ ?_ ?_
      · rw [HA.out]; kernel_rfl
      · exact ⟨(fb.step hb (Nat.le_refl _)), (fk.trans (KeepI.below hb)), (Nat.le_trans fs hb.size), (oAr.stay hb), (oCr.stay hb), (oP.stay hb), (oQ.stay hb), (oR.stay hb), (oU.stay hb), (oI.stay hb), (mv mo_is (KeepI.below hb) f0), (mv mo_is (KeepI.below hb) f1), (fun _ => hr.val), (mv (mo_t2 mo_rrt mo_is) (KeepI.below hb) f3), (mv (mo_t2 mo_rrt mo_is) (KeepI.below hb) f4), (mv mo_rrt (KeepI.below hb) f5), (mv mo_is (KeepI.below hb) f6), (fun h => (f7 h).below hb), (mv mo_is (KeepI.below hb) f9), s8, m7⟩
    refine StepsU.run rfl ?_ ?_
    · intro L U wr hF hlk haf A K hA hK
      have HA : Hid (A = putAll _ _ U) := hA
      clear hA
      simp [Aft, Region.binds] at haf
      obtain ⟨fb, fk, fs, oAr, oCr, oP, oQ, oR, oU, oI, f0, f1, f2, f3, f4, f5, f6, f7, f9, s8, m7⟩ := hF
      have g0 := f0 (by simp [haf])
      have e68 := rd HA.out 68 (by kernel_rfl) g0
      have g2 := f2 (by simp [haf])
      have e70 := rd HA.out 70 (by kernel_rfl) rfl
      refine ⟨?_⟩
      go_simp
      refine (rqadd_any _ _ q (-p) _ (hAr.val.keepI fk) g2).mono ?_
      rintro e w1 ⟨z1, z2, z3, z4, z5, z6, z7, z8, rfl, hr, hb⟩
      go_simp
      refine hK (upd U 71 (.tuple #[.agg #[.bool z1, .slice z2 z3 z4, .bool z5, .slice z6 z7 z8], .int .i64 (addC q (-p))])) _ _ ?_ ?_
      · rw [HA.out]; kernel_rfl
      · exact ⟨(fb.step hb (Nat.le_refl _)), (fk.trans (KeepI.below hb)), (Nat.le_trans fs hb.size), (oAr.stay hb), (oCr.stay hb), (oP.stay hb), (oQ.stay hb), (oR.stay hb), (oU.stay hb), (oI.stay hb), (mv mo_is (KeepI.below hb) f0), (mv mo_is (KeepI.below hb) f1), (mv mo_rrt (KeepI.below hb) f2), (fun _ => ⟨_, _, rfl, hr.val, rfl⟩), (mv (mo_t2 mo_rrt mo_is) (KeepI.below hb) f4), (mv mo_rrt (KeepI.below hb) f5), (mv mo_is (KeepI.below hb) f6), (fun h => (f7 h).below hb), (mv mo_is (KeepI.below hb) f9), s8, m7⟩
    refine StepsU.run rfl ?_ ?_
    · intro L U wr hF hlk haf A K hA hK
      have HA : Hid (A = putAll _ _ U) := hA
      clear hA
      simp [Aft, Region.binds] at haf
      obtain ⟨fb, fk, fs, oAr, oCr, oP, oQ, oR, oU, oI, f0, f1, f2, f3, f4, f5, f6, f7, f9, s8, m7⟩ := hF
      have g3 := f3 (by simp [haf])
      have e71 := rd HA.out 71 (by kernel_rfl) rfl
      refine ⟨?_⟩
      go_simp
      refine hK (upd U 67 (U 71)) _ _ ?_ ?_
      · rw [HA.out]; kernel_rfl
      · exact ⟨fb, fk, fs, oAr, oCr, oP, oQ, oR, oU, oI, f0, f1, f2, f3, (fun _ => g3), f5, f6, f7, f9, s8, m7⟩
    refine StepsU.run rfl ?_ ?_
    · intro L U wr hF hlk haf A K hA hK
      have HA : Hid (A = putAll _ _ U) := hA
      clear hA
      simp [Aft, Region.binds] at haf
      obtain ⟨fb, fk, fs, oAr, oCr, oP, oQ, oR, oU, oI, f0, f1, f2, f3, f4, f5, f6, f7, f9, s8, m7⟩ := hF
      have g4 := f4 (by simp [haf])
      obtain ⟨t0, t1, hT, k0, k1⟩ := g4
      have e67 := rd HA.out 67 (by kernel_rfl) hT
      refine ⟨?_⟩
      go_simp
      have hs8 : L 8 = false := by cases h : L 8 with | false => rfl | true => rw [s8 h] at hlk; cases hlk
      refine hK (upd U 72 t0) _ _ ?_ ?_
      · rw [HA.out]; kernel_rfl
      · exact ⟨fb, fk, fs, oAr, oCr, oP, oQ, oR, oU, oI, f0, f1, f2, f3, f4, (fun _ => k0), f6, (fun h => flip_v (P := fun v => NEW _ _ _ _ v) hs8 (f7 h)), f9, (fun _ => rfl), m7⟩
    refine StepsU.run rfl ?_ ?_
    · intro L U wr hF hlk haf A K hA hK
      have HA : Hid (A = putAll _ _ U) := hA
      clear hA
      simp [Aft, Region.binds] at haf
      obtain ⟨fb, fk, fs, oAr, oCr, oP, oQ, oR, oU, oI, f0, f1, f2, f3, f4, f5, f6, f7, f9, s8, m7⟩ := hF
      have g4 := f4 (by simp [haf])
      obtain ⟨t0, t1, hT, k0, k1⟩ := g4
      have e67 := rd HA.out 67 (by kernel_rfl) hT
      refine ⟨?_⟩
      go_simp
      refine hK (upd U 73 t1) _ _ ?_ ?_
      · rw [HA.out]; kernel_rfl
      · exact ⟨fb, fk, fs, oAr, oCr, oP, oQ, oR, oU, oI, f0, f1, f2, f3, f4, f5, (fun _ => k1), f7, f9, s8, m7⟩
    refine StepsU.run rfl ?_ ?_
    · intro L U wr hF hlk haf A K hA hK
      have HA : Hid (A = putAll _ _ U) := hA
      clear hA
      simp [Aft, Region.binds] at haf
      obtain ⟨fb, fk, fs, oAr, oCr, oP, oQ, oR, oU, oI, f0, f1, f2, f3, f4, f5, f6, f7, f9, s8, m7⟩ := hF
      have hst : L 8 = false := by cases h : L 8 with | false => rfl | true => rw [m7 h] at hlk; cases hlk
      refine ⟨?_⟩
      go_simp
      have hb := below_new wr (.cells #[.bool false, .slice none 0 0, .bool false, .slice none 0 0] 32 (0, 0))
      refine hK (upd U 19 (.pointer (some ⟨wr.heap.size, 0, none⟩))) _ _ ?_ ?_
      · rw [HA.out]; kernel_rfl
      · exact ⟨(fb.step hb (Nat.le_refl _)), (fk.trans (KeepI.below hb)), (Nat.le_trans fs hb.size), (oAr.stay hb), (oCr.stay hb), (oP.stay hb), (oQ.stay hb), (oR.stay hb), (oU.stay hb), (oI.stay hb), (mv mo_is (KeepI.below hb) f0), (mv mo_is (KeepI.below hb) f1), (mv mo_rrt (KeepI.below hb) f2), (mv (mo_t2 mo_rrt mo_is) (KeepI.below hb) f3), (mv (mo_t2 mo_rrt mo_is) (KeepI.below hb) f4), (mv mo_rrt (KeepI.below hb) f5), (mv mo_is (KeepI.below hb) f6), (fun _ => new_zero hst (NEW.mk fs (noI4 _ _ _ _ _ _ _ _))), (mv mo_is (KeepI.below hb) f9), s8, (fun _ => rfl)⟩
    refine StepsU.run rfl ?_ ?_
    · intro L U wr hF hlk haf A K hA hK
      have HA : Hid (A = putAll _ _ U) := hA
      clear hA
      simp [Aft, Region.binds] at haf
      obtain ⟨fb, fk, fs, oAr, oCr, oP, oQ, oR, oU, oI, f0, f1, f2, f3, f4, f5, f6, f7, f9, s8, m7⟩ := hF
      have g5 := f5 (by simp [haf])
      obtain ⟨px, pa, pn, pc, qx, qa, qn, qc, hsrc, -⟩ := g5
      have e72 := rd HA.out 72 (by kernel_rfl) hsrc
      have gA := f7 (by simp [haf])
      simp only [hlk, cond_false] at gA
      obtain ⟨b, cs, hp, hBb, hcs, hblk, -⟩ := gA
      injection hcs with hcs
      subst hcs
      have e19 := rd HA.out 19 (by kernel_rfl) hp
      obtain ⟨c0, c1, c2, c3⟩ := hblk.four
      obtain ⟨q0, q1, q2, q3⟩ := hblk.frozen4
      refine ⟨?_⟩
      go_simp
      have hk := keepI_four (noI_slice _ _ _) (noI_slice _ _ _) hblk px pa pn pc qx qa qn qc
      refine hK U _ _ ?_ ?_
      · exact HA.out
      · exact ⟨(below_store4 fb (Nat.le_trans hbw.size hBb) _ _ _ _), (fk.trans hk), (by simpa using fs), (oAr.other4 (Nat.ne_of_gt (Nat.lt_of_lt_of_le ltAr hBb)) _ _ _ _), (oCr.other4 (Nat.ne_of_gt (Nat.lt_of_lt_of_le ltCr hBb)) _ _ _ _), (oP.other4 (Nat.ne_of_gt (Nat.lt_of_lt_of_le ltP hBb)) _ _ _ _), (oQ.other4 (Nat.ne_of_gt (Nat.lt_of_lt_of_le ltQ hBb)) _ _ _ _), (oR.other4 (Nat.ne_of_gt (Nat.lt_of_lt_of_le ltR hBb)) _ _ _ _), (oU.other4 (Nat.ne_of_gt (Nat.lt_of_lt_of_le ltU hBb)) _ _ _ _), (oI.other4 (Nat.ne_of_gt (Nat.lt_of_lt_of_le ltI hBb)) _ _ _ _), (mv mo_is hk f0), (mv mo_is hk f1), (mv mo_rrt hk f2), (mv (mo_t2 mo_rrt mo_is) hk f3), (mv (mo_t2 mo_rrt mo_is) hk f4), (mv mo_rrt hk f5), (mv mo_is hk f6), (fun _ => stored_new hp hsrc (NEW.over4 hBb hblk px pa pn pc qx qa qn qc)), (mv mo_is hk f9), (fun _ => by simp [haf]), (fun _ => by simp [haf])⟩
    refine StepsU.run rfl ?_ StepsU.nil
    · intro L U wr hF hlk haf A K hA hK
      have HA : Hid (A = putAll _ _ U) := hA
      clear hA
      simp [Aft, Region.binds] at haf
      obtain ⟨fb, fk, fs, oAr, oCr, oP, oQ, oR, oU, oI, f0, f1, f2, f3, f4, f5, f6, f7, f9, s8, m7⟩ := hF
      have g6 := f6 (by simp [haf])
      have e73 := rd HA.out 73 (by kernel_rfl) rfl
      refine ⟨?_⟩
      go_simp
      refine hK (upd U 20 (U 73)) _ _ ?_ ?_
      · rw [HA.out]; kernel_rfl
      · exact ⟨fb, fk, fs, oAr, oCr, oP, oQ, oR, oU, oI, f0, f1, f2, f3, f4, f5, f6, f7, (fun _ => g6), s8, m7⟩
  intro L U9 V9 hall hF
  have hbw0 := hbw
  clear hbw
  obtain ⟨hbw, fk, fs, oAr, oCr, oP, oQ, oR, oU, oI, f0, f1, f2, f3, f4, f5, f6, f7, f9, s8, m7⟩ := hF
  clear s8 m7
  have g0 := f0 (hall 0 (by decide))
  have g1 := f1 (hall 1 (by decide))
  have g2 := f2 (hall 2 (by decide))
  have g3 := f3 (hall 3 (by decide))
  have g4 := f4 (hall 4 (by decide))
  have g5 := f5 (hall 5 (by decide))
  have g6 := f6 (hall 6 (by decide))
  have g7 := f7 (hall 7 (by decide))
  rw [hall 8 (by decide), cond_true] at g7
  have g9 := f9 (hall 9 (by decide))
  clear hall f0 f1 f2 f3 f4 f5 f6 f7 f9
  replace hA := hA.keepI fk
  replace hAr := hAr.keepI fk
  replace hC := hC.keepI fk
  replace hCr := hCr.keepI fk
  replace hP := hP.keepI fk
  replace hQ := hQ.keepI fk
  replace hR := hR.keepI fk
  replace hU := hU.keepI fk
  replace hI := hI.keepI fk
  obtain ⟨bJ, csJ, hpJ, lbJ, hcsJ, oJ, -⟩ := g7
  obtain ⟨xJ, aJ, nJ, cJ, yJ, eJ, mJ, fJ, hvJ, hJ⟩ := g5
  rw [hvJ] at hcsJ
  injection hcsJ with hcsJ
  subst hcsJ
  have ltJ := oJ.lt
  have neArJ : w2.heap.size + 1 ≠ bJ := Nat.ne_of_lt (Nat.lt_of_lt_of_le ltAr lbJ)
  have neCrJ : w3.heap.size + 1 ≠ bJ := Nat.ne_of_lt (Nat.lt_of_lt_of_le ltCr lbJ)
  have nePJ : w4.heap.size ≠ bJ := Nat.ne_of_lt (Nat.lt_of_lt_of_le ltP lbJ)
  have neQJ : w5.heap.size ≠ bJ := Nat.ne_of_lt (Nat.lt_of_lt_of_le ltQ lbJ)
  have neRJ : w6.heap.size ≠ bJ := Nat.ne_of_lt (Nat.lt_of_lt_of_le ltR lbJ)
  have neUJ : w7.heap.size ≠ bJ := Nat.ne_of_lt (Nat.lt_of_lt_of_le ltU lbJ)
  have neIJ : w8.heap.size ≠ bJ := Nat.ne_of_lt (Nat.lt_of_lt_of_le ltI lbJ)
  have lwJ : w.heap.size ≤ bJ := Nat.le_trans hbw0.size lbJ
  clear lbJ
  replace ltAr := Nat.lt_of_lt_of_le ltAr fs
  replace ltCr := Nat.lt_of_lt_of_le ltCr fs
  replace ltP := Nat.lt_of_lt_of_le ltP fs
  replace ltQ := Nat.lt_of_lt_of_le ltQ fs
  replace ltR := Nat.lt_of_lt_of_le ltR fs
  replace ltU := Nat.lt_of_lt_of_le ltU fs
  replace ltI := Nat.lt_of_lt_of_le ltI fs
  clear g0
  clear g1
  clear g2
  clear g3
  clear g4
  clear g6
  clear hbw0
  simp only [setM_some, setM_none, setM_nil]
  rw [hpJ]
  clear hpJ hvJ
  clear ltA oA
  clear ltC oC
  clear fk fs
  clear hA hC
  have eC : U9 20 = _ := g9
  clear g9
  rw [eC]
  clear eC
  obtain ⟨Arc0, Arc1, Arc2, Arc3⟩ := oAr.four
  obtain ⟨Arq0, Arq1, Arq2, Arq3⟩ := oAr.frozen4
  obtain ⟨Crc0, Crc1, Crc2, Crc3⟩ := oCr.four
  obtain ⟨Crq0, Crq1, Crq2, Crq3⟩ := oCr.frozen4
  go_wp2_with fail
  refine (rqmul_any _ _ q p _ hAr.val hCr.val).mono ?_
  rintro e w10 ⟨r1, r2, r3, r4, r5, r6, r7, r8, rfl, hL, hb⟩
  clear Arc0 Arc1 Arc2 Arc3 Arq0 Arq1 Arq2 Arq3
  clear Crc0 Crc1 Crc2 Crc3 Crq0 Crq1 Crq2 Crq3
  replace oAr := oAr.stay hb
  replace ltAr := oAr.lt
  replace oCr := oCr.stay hb
  replace ltCr := oCr.lt
  replace oP := oP.stay hb
  replace ltP := oP.lt
  replace oQ := oQ.stay hb
  replace ltQ := oQ.lt
  replace oR := oR.stay hb
  replace ltR := oR.lt
  replace oU := oU.stay hb
  replace ltU := oU.lt
  replace oI := oI.stay hb
  replace ltI := oI.lt
  replace oJ := oJ.stay hb
  replace ltJ := oJ.lt
  replace hAr := hAr.below hb
  replace hCr := hCr.below hb
  replace hP := hP.below hb
  replace hQ := hQ.below hb
  replace hR := hR.below hb
  replace hU := hU.below hb
  replace hI := hI.below hb
  replace hJ := hJ.below hb
  replace hbw := hbw.step hb (Nat.le_refl _)
  clear hb
  have hn := below_new w10 (.cells #[.bool r1, .slice r2 r3 r4, .bool r5, .slice r6 r7 r8] 32 (0, 0))
  have oL := Blk.new w10 32 #[.bool r1, .slice r2 r3 r4, .bool r5, .slice r6 r7 r8]
  have neArL : w2.heap.size + 1 ≠ w10.heap.size := Nat.ne_of_lt ltAr
  have neCrL : w3.heap.size + 1 ≠ w10.heap.size := Nat.ne_of_lt ltCr
  have nePL : w4.heap.size ≠ w10.heap.size := Nat.ne_of_lt ltP
  have neQL : w5.heap.size ≠ w10.heap.size := Nat.ne_of_lt ltQ
  have neRL : w6.heap.size ≠ w10.heap.size := Nat.ne_of_lt ltR
  have neUL : w7.heap.size ≠ w10.heap.size := Nat.ne_of_lt ltU
  have neIL : w8.heap.size ≠ w10.heap.size := Nat.ne_of_lt ltI
  have neJL : bJ ≠ w10.heap.size := Nat.ne_of_lt ltJ
  have lwL : w.heap.size ≤ w10.heap.size := hbw.size
  replace oAr := oAr.stay hn
  replace ltAr := oAr.lt
  replace oCr := oCr.stay hn
  replace ltCr := oCr.lt
  replace oP := oP.stay hn
  replace ltP := oP.lt
  replace oQ := oQ.stay hn
  replace ltQ := oQ.lt
  replace oR := oR.stay hn
  replace ltR := oR.lt
  replace oU := oU.stay hn
  replace ltU := oU.lt
  replace oI := oI.stay hn
  replace ltI := oI.lt
  replace oJ := oJ.stay hn
  replace ltJ := oJ.lt
  replace hAr := hAr.below hn
  replace hCr := hCr.below hn
  replace hP := hP.below hn
  replace hQ := hQ.below hn
  replace hR := hR.below hn
  replace hU := hU.below hn
  replace hI := hI.below hn
  replace hJ := hJ.below hn
  replace hL := hL.below hn
  replace hbw := hbw.step hn (Nat.le_refl _)
  clear hn
  have ltL := oL.lt
  obtain ⟨Arc0, Arc1, Arc2, Arc3⟩ := oAr.four
  obtain ⟨Arq0, Arq1, Arq2, Arq3⟩ := oAr.frozen4
  obtain ⟨Crc0, Crc1, Crc2, Crc3⟩ := oCr.four
  obtain ⟨Crq0, Crq1, Crq2, Crq3⟩ := oCr.frozen4
  go_wp2_with fail
  refine (rquo_any _ _ q p _ hAr.val hCr.val HZ.out).mono ?_
  rintro e w11 ⟨v1, v2, v3, v4, v5, v6, v7, v8, rfl, hM, hb⟩
  clear Arc0 Arc1 Arc2 Arc3 Arq0 Arq1 Arq2 Arq3
  clear Crc0 Crc1 Crc2 Crc3 Crq0 Crq1 Crq2 Crq3
  replace oAr := oAr.stay hb
  replace ltAr := oAr.lt
  replace oCr := oCr.stay hb
  replace ltCr := oCr.lt
  replace oP := oP.stay hb
  replace ltP := oP.lt
  replace oQ := oQ.stay hb
  replace ltQ := oQ.lt
  replace oR := oR.stay hb
  replace ltR := oR.lt
  replace oU := oU.stay hb
  replace ltU := oU.lt
  replace oI := oI.stay hb
  replace ltI := oI.lt
  replace oJ := oJ.stay hb
  replace ltJ := oJ.lt
  replace oL := oL.stay hb
  replace ltL := oL.lt
  replace hAr := hAr.below hb
  replace hCr := hCr.below hb
  replace hP := hP.below hb
  replace hQ := hQ.below hb
  replace hR := hR.below hb
  replace hU := hU.below hb
  replace hI := hI.below hb
  replace hJ := hJ.below hb
  replace hL := hL.below hb
  replace hbw := hbw.step hb (Nat.le_refl _)
  clear hb
  have hn := below_new w11 (.cells #[.bool v1, .slice v2 v3 v4, .bool v5, .slice v6 v7 v8] 32 (0, 0))
  have oM := Blk.new w11 32 #[.bool v1, .slice v2 v3 v4, .bool v5, .slice v6 v7 v8]
  have neArM : w2.heap.size + 1 ≠ w11.heap.size := Nat.ne_of_lt ltAr
  have neCrM : w3.heap.size + 1 ≠ w11.heap.size := Nat.ne_of_lt ltCr
  have nePM : w4.heap.size ≠ w11.heap.size := Nat.ne_of_lt ltP
  have neQM : w5.heap.size ≠ w11.heap.size := Nat.ne_of_lt ltQ
  have neRM : w6.heap.size ≠ w11.heap.size := Nat.ne_of_lt ltR
  have neUM : w7.heap.size ≠ w11.heap.size := Nat.ne_of_lt ltU
  have neIM : w8.heap.size ≠ w11.heap.size := Nat.ne_of_lt ltI
  have neJM : bJ ≠ w11.heap.size := Nat.ne_of_lt ltJ
  have neLM : w10.heap.size ≠ w11.heap.size := Nat.ne_of_lt ltL
  have lwM : w.heap.size ≤ w11.heap.size := hbw.size
  replace oAr := oAr.stay hn
  replace ltAr := oAr.lt
  replace oCr := oCr.stay hn
  replace ltCr := oCr.lt
  replace oP := oP.stay hn
  replace ltP := oP.lt
  replace oQ := oQ.stay hn
  replace ltQ := oQ.lt
  replace oR := oR.stay hn
  replace ltR := oR.lt
  replace oU := oU.stay hn
  replace ltU := oU.lt
  replace oI := oI.stay hn
  replace ltI := oI.lt
  replace oJ := oJ.stay hn
  replace ltJ := oJ.lt
  replace oL := oL.stay hn
  replace ltL := oL.lt
  replace hAr := hAr.below hn
  replace hCr := hCr.below hn
  replace hP := hP.below hn
  replace hQ := hQ.below hn
  replace hR := hR.below hn
  replace hU := hU.below hn
  replace hI := hI.below hn
  replace hJ := hJ.below hn
  replace hL := hL.below hn
  replace hM := hM.below hn
  replace hbw := hbw.step hn (Nat.le_refl _)
  clear hn
  have ltM := oM.lt
  obtain ⟨Pc0, Pc1, Pc2, Pc3⟩ := oP.four
  obtain ⟨Pq0, Pq1, Pq2, Pq3⟩ := oP.frozen4
  obtain ⟨Ic0, Ic1, Ic2, Ic3⟩ := oI.four
  obtain ⟨Iq0, Iq1, Iq2, Iq3⟩ := oI.frozen4
  go_wp2_with fail
  refine (same2_yes _ _ (addC q p) (addZ q p) 400 _ hP.val hI.val (by decide)).mono ?_
  rintro e w12 ⟨rfl, hb⟩
  clear Pc0 Pc1 Pc2 Pc3 Pq0 Pq1 Pq2 Pq3
  clear Ic0 Ic1 Ic2 Ic3 Iq0 Iq1 Iq2 Iq3
  replace oAr := oAr.stay hb
  replace ltAr := oAr.lt
  replace oCr := oCr.stay hb
  replace ltCr := oCr.lt
  replace oP := oP.stay hb
  replace ltP := oP.lt
  replace oQ := oQ.stay hb
  replace ltQ := oQ.lt
  replace oR := oR.stay hb
  replace ltR := oR.lt
  replace oU := oU.stay hb
  replace ltU := oU.lt
  replace oI := oI.stay hb
  replace ltI := oI.lt
  replace oJ := oJ.stay hb
  replace ltJ := oJ.lt
  replace oL := oL.stay hb
  replace ltL := oL.lt
  replace oM := oM.stay hb
  replace ltM := oM.lt
  replace hAr := hAr.below hb
  replace hCr := hCr.below hb
  replace hP := hP.below hb
  replace hQ := hQ.below hb
  replace hR := hR.below hb
  replace hU := hU.below hb
  replace hI := hI.below hb
  replace hJ := hJ.below hb
  replace hL := hL.below hb
  replace hM := hM.below hb
  replace hbw := hbw.step hb (Nat.le_refl _)
  clear hb
  obtain ⟨Qc0, Qc1, Qc2, Qc3⟩ := oQ.four
  obtain ⟨Qq0, Qq1, Qq2, Qq3⟩ := oQ.frozen4
  obtain ⟨Jc0, Jc1, Jc2, Jc3⟩ := oJ.four
  obtain ⟨Jq0, Jq1, Jq2, Jq3⟩ := oJ.frozen4
  go_wp2_with fail
  refine (same2_yes _ _ (addC q (-p)) (addZ q (-p)) 400 _ hQ.val hJ.val (by decide)).mono ?_
  rintro e w13 ⟨rfl, hb⟩
  clear Qc0 Qc1 Qc2 Qc3 Qq0 Qq1 Qq2 Qq3
  clear Jc0 Jc1 Jc2 Jc3 Jq0 Jq1 Jq2 Jq3
  replace oAr := oAr.stay hb
  replace ltAr := oAr.lt
  replace oCr := oCr.stay hb
  replace ltCr := oCr.lt
  replace oP := oP.stay hb
  replace ltP := oP.lt
  replace oQ := oQ.stay hb
  replace ltQ := oQ.lt
  replace oR := oR.stay hb
  replace ltR := oR.lt
  replace oU := oU.stay hb
  replace ltU := oU.lt
  replace oI := oI.stay hb
  replace ltI := oI.lt
  replace oJ := oJ.stay hb
  replace ltJ := oJ.lt
  replace oL := oL.stay hb
  replace ltL := oL.lt
  replace oM := oM.stay hb
  replace ltM := oM.lt
  replace hAr := hAr.below hb
  replace hCr := hCr.below hb
  replace hP := hP.below hb
  replace hQ := hQ.below hb
  replace hR := hR.below hb
  replace hU := hU.below hb
  replace hI := hI.below hb
  replace hJ := hJ.below hb
  replace hL := hL.below hb
  replace hM := hM.below hb
  replace hbw := hbw.step hb (Nat.le_refl _)
  clear hb
  obtain ⟨Rc0, Rc1, Rc2, Rc3⟩ := oR.four
  obtain ⟨Rq0, Rq1, Rq2, Rq3⟩ := oR.frozen4
  obtain ⟨Lc0, Lc1, Lc2, Lc3⟩ := oL.four
  obtain ⟨Lq0, Lq1, Lq2, Lq3⟩ := oL.frozen4
  go_wp2_with fail
  refine (same2_yes _ _ (mulC q p) (mulZ q p) 400 _ hR.val hL.val (by decide)).mono ?_
  rintro e w14 ⟨rfl, hb⟩
  clear Rc0 Rc1 Rc2 Rc3 Rq0 Rq1 Rq2 Rq3
  clear Lc0 Lc1 Lc2 Lc3 Lq0 Lq1 Lq2 Lq3
  replace oAr := oAr.stay hb
  replace ltAr := oAr.lt
  replace oCr := oCr.stay hb
  replace ltCr := oCr.lt
  replace oP := oP.stay hb
  replace ltP := oP.lt
  replace oQ := oQ.stay hb
  replace ltQ := oQ.lt
  replace oR := oR.stay hb
  replace ltR := oR.lt
  replace oU := oU.stay hb
  replace ltU := oU.lt
  replace oI := oI.stay hb
  replace ltI := oI.lt
  replace oJ := oJ.stay hb
  replace ltJ := oJ.lt
  replace oL := oL.stay hb
  replace ltL := oL.lt
  replace oM := oM.stay hb
  replace ltM := oM.lt
  replace hAr := hAr.below hb
  replace hCr := hCr.below hb
  replace hP := hP.below hb
  replace hQ := hQ.below hb
  replace hR := hR.below hb
  replace hU := hU.below hb
  replace hI := hI.below hb
  replace hJ := hJ.below hb
  replace hL := hL.below hb
  replace hM := hM.below hb
  replace hbw := hbw.step hb (Nat.le_refl _)
  clear hb
  obtain ⟨Uc0, Uc1, Uc2, Uc3⟩ := oU.four
  obtain ⟨Uq0, Uq1, Uq2, Uq3⟩ := oU.frozen4
  obtain ⟨Mc0, Mc1, Mc2, Mc3⟩ := oM.four
  obtain ⟨Mq0, Mq1, Mq2, Mq3⟩ := oM.frozen4
  go_wp2_with fail
  refine (same2_yes _ _ (quoC q p) (quoZ q p) 400 _ hU.val hM.val (by decide)).mono ?_
  rintro e w15 ⟨rfl, hb⟩
  clear Uc0 Uc1 Uc2 Uc3 Uq0 Uq1 Uq2 Uq3
  clear Mc0 Mc1 Mc2 Mc3 Mq0 Mq1 Mq2 Mq3
  replace oAr := oAr.stay hb
  replace ltAr := oAr.lt
  replace oCr := oCr.stay hb
  replace ltCr := oCr.lt
  replace oP := oP.stay hb
  replace ltP := oP.lt
  replace oQ := oQ.stay hb
  replace ltQ := oQ.lt
  replace oR := oR.stay hb
  replace ltR := oR.lt
  replace oU := oU.stay hb
  replace ltU := oU.lt
  replace oI := oI.stay hb
  replace ltI := oI.lt
  replace oJ := oJ.stay hb
  replace ltJ := oJ.lt
  replace oL := oL.stay hb
  replace ltL := oL.lt
  replace oM := oM.stay hb
  replace ltM := oM.lt
  replace hAr := hAr.below hb
  replace hCr := hCr.below hb
  replace hP := hP.below hb
  replace hQ := hQ.below hb
  replace hR := hR.below hb
  replace hU := hU.below hb
  replace hI := hI.below hb
  replace hJ := hJ.below hb
  replace hL := hL.below hb
  replace hM := hM.below hb
  replace hbw := hbw.step hb (Nat.le_refl _)
  clear hb
  go_wp2
  refine bodyPost_ret (v := (.bool true)) (by simp [results, Tryz.results3, go_sem]) rfl ?_
  exact ⟨rfl, hbw⟩
end Go.Proofs.YtidpbdhhbeaijaaGreat
