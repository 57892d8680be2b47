/- The walk of suretylaw02.RatioOrders: it answers true at every input. -/
import Derived.Test.YtidpbdhhbeaijaaL0JOrders
import Derived.Test.YtidpbdhhbeaijaaSame2JOrders
import Derived.Test.YtidpbdhhbeaijaaQ8JOrders
namespace Go.Proofs.Ytidpbdhhbeaijaa
open Go.RowKit
theorem qcmp_z (vX vY : Value) (x1 y1 : Rat) (r : Int) (w : World) (hX : QV w vX x1) (hY : QV w vY y1) (hr : cmpQ x1 y1 = r) :
    Calls Try.prog 24 #[vX, vY] w fun e w' => e = .returned (.int .i64 r) ∧ Below w.heap.size w w' := by
  subst hr
  exact qcmp_any vX vY x1 y1 w hX hY
theorem rqcmp_z (vX vY : Value) (x1 y1 : Rat) (r : Int) (w : World) (hX : QRV w vX x1 400) (hY : QRV w vY y1 400) (hr : cmpQ x1 y1 = r) :
    Calls Try.prog 23 #[vX, vY] w fun e w' => e = .returned (.int .i64 r) ∧ Below w.heap.size w w' := by
  subst hr
  exact rqcmp_any vX vY x1 y1 w hX hY
theorem neg_lt {q : Rat} (h : q.num.natAbs < lim ∧ (q.den : Int).natAbs < lim) : (-q).num.natAbs < lim ∧ ((-q).den : Int).natAbs < lim := by
  rw [Rat.neg_num, Rat.neg_den, Int.natAbs_neg]
  exact h
theorem wrap_small64 {x : Int} (h1 : -9223372036854775808 ≤ x) (h2 : x ≤ 9223372036854775807) : IntKind.i64.wrap x = x := by
  rw [IntKind.wrap_i64]; omega

set_option maxRecDepth 20000 in
set_option maxHeartbeats 16000000 in
theorem ratioOrders_any (s t : ByteArray) (w : World) (hs : s.size ≤ maxLen) (ht : t.size ≤ maxLen) :
    Calls Try.prog 5 #[.string s, .string t] w fun e w' => e = .returned (.bool true) ∧ Below w.heap.size w w' := by
  have hbw := Below.refl w.heap.size w
  go_enter Try.func5, Try.ntmps5
  go_wp2_with fail
  refine (awake2_any _).mono ?_
  rintro e w1 ⟨rfl, hb⟩
  replace hbw := hbw.step hb (Nat.le_refl _)
  clear hb
  go_wp2_with fail
  refine (rat_any s _ hs).mono ?_
  rintro e w2 ⟨q, xA, aA, nA, cA, yA, eA, mA, fA, xAr, aAr, nAr, cAr, yAr, eAr, mAr, fAr, rfl, hA, hAr, hb⟩
  replace hbw := hbw.step hb (Nat.le_refl _)
  clear hb
  have hn := below_new w2 (.cells #[.bool xA, .slice aA nA cA, .bool yA, .slice eA mA fA] 27 (0, 0))
  have oA := Blk.new w2 27 #[.bool xA, .slice aA nA cA, .bool yA, .slice eA mA fA]
  have lwA : w.heap.size ≤ w2.heap.size := hbw.size
  replace hA := hA.below hn
  replace hAr := hAr.below hn
  replace hbw := hbw.step hn (Nat.le_refl _)
  clear hn
  have ltA := oA.lt
  have hn := below_new (w2.alloc (.cells #[.bool xA, .slice aA nA cA, .bool yA, .slice eA mA fA] 27 (0, 0))) (.cells #[.bool xAr, .slice aAr nAr cAr, .bool yAr, .slice eAr mAr fAr] 35 (0, 0))
  have oAr := Blk.new (w2.alloc (.cells #[.bool xA, .slice aA nA cA, .bool yA, .slice eA mA fA] 27 (0, 0))) 35 #[.bool xAr, .slice aAr nAr cAr, .bool yAr, .slice eAr mAr fAr]
  simp only [World.size_alloc] at oAr
  have neAAr : w2.heap.size ≠ w2.heap.size + 1 := by have := ltA; simp at this; omega
  replace oA := oA.stay hn
  replace ltA := oA.lt
  replace hA := hA.below hn
  replace hAr := hAr.below hn
  replace hbw := hbw.step hn (Nat.le_refl _)
  clear hn
  have ltAr := oAr.lt
  go_wp2_with fail
  refine (rat_any t _ ht).mono ?_
  rintro e w3 ⟨p, xC, aC, nC, cC, yC, eC, mC, fC, xCr, aCr, nCr, cCr, yCr, eCr, mCr, fCr, rfl, hC, hCr, hb⟩
  replace oA := oA.stay hb
  replace ltA := oA.lt
  replace oAr := oAr.stay hb
  replace ltAr := oAr.lt
  replace hA := hA.below hb
  replace hAr := hAr.below hb
  replace hbw := hbw.step hb (Nat.le_refl _)
  clear hb
  have hn := below_new w3 (.cells #[.bool xC, .slice aC nC cC, .bool yC, .slice eC mC fC] 27 (0, 0))
  have oC := Blk.new w3 27 #[.bool xC, .slice aC nC cC, .bool yC, .slice eC mC fC]
  have neAC : w2.heap.size ≠ w3.heap.size := Nat.ne_of_lt ltA
  have neArC : w2.heap.size + 1 ≠ w3.heap.size := Nat.ne_of_lt ltAr
  have lwC : w.heap.size ≤ w3.heap.size := hbw.size
  replace oA := oA.stay hn
  replace ltA := oA.lt
  replace oAr := oAr.stay hn
  replace ltAr := oAr.lt
  replace hA := hA.below hn
  replace hAr := hAr.below hn
  replace hC := hC.below hn
  replace hCr := hCr.below hn
  replace hbw := hbw.step hn (Nat.le_refl _)
  clear hn
  have ltC := oC.lt
  have hn := below_new (w3.alloc (.cells #[.bool xC, .slice aC nC cC, .bool yC, .slice eC mC fC] 27 (0, 0))) (.cells #[.bool xCr, .slice aCr nCr cCr, .bool yCr, .slice eCr mCr fCr] 35 (0, 0))
  have oCr := Blk.new (w3.alloc (.cells #[.bool xC, .slice aC nC cC, .bool yC, .slice eC mC fC] 27 (0, 0))) 35 #[.bool xCr, .slice aCr nCr cCr, .bool yCr, .slice eCr mCr fCr]
  simp only [World.size_alloc] at oCr
  have neACr : w2.heap.size ≠ w3.heap.size + 1 := by have := ltA; simp at this; omega
  have neArCr : w2.heap.size + 1 ≠ w3.heap.size + 1 := by have := ltAr; simp at this; omega
  have neCCr : w3.heap.size ≠ w3.heap.size + 1 := by have := ltC; simp at this; omega
  replace oA := oA.stay hn
  replace ltA := oA.lt
  replace oAr := oAr.stay hn
  replace ltAr := oAr.lt
  replace oC := oC.stay hn
  replace ltC := oC.lt
  replace hA := hA.below hn
  replace hAr := hAr.below hn
  replace hC := hC.below hn
  replace hCr := hCr.below hn
  replace hbw := hbw.step hn (Nat.le_refl _)
  clear hn
  have ltCr := oCr.lt
  obtain ⟨Arc0, Arc1, Arc2, Arc3⟩ := oAr.four
  obtain ⟨Arq0, Arq1, Arq2, Arq3⟩ := oAr.frozen4
  obtain ⟨Crc0, Crc1, Crc2, Crc3⟩ := oCr.four
  obtain ⟨Crq0, Crq1, Crq2, Crq3⟩ := oCr.frozen4
  go_wp2_with fail
  refine (rqcmp_any _ _ q p _ hAr.val hCr.val).mono ?_
  rintro e w4 ⟨rfl, hb⟩
  clear Arc0 Arc1 Arc2 Arc3 Arq0 Arq1 Arq2 Arq3
  clear Crc0 Crc1 Crc2 Crc3 Crq0 Crq1 Crq2 Crq3
  replace oA := oA.stay hb
  replace ltA := oA.lt
  replace oAr := oAr.stay hb
  replace ltAr := oAr.lt
  replace oC := oC.stay hb
  replace ltC := oC.lt
  replace oCr := oCr.stay hb
  replace ltCr := oCr.lt
  replace hA := hA.below hb
  replace hAr := hAr.below hb
  replace hC := hC.below hb
  replace hCr := hCr.below hb
  replace hbw := hbw.step hb (Nat.le_refl _)
  clear hb
  obtain ⟨c, HC⟩ : ∃ c, Hid (cmpQ q p = c) := ⟨_, rfl⟩
  have HR : Hid (-1 ≤ c ∧ c ≤ 1) := by show _ ∧ _; rw [← HC.out]; rcases cmpQ_cases q p with h | h | h <;> rw [h] <;> decide
  have HC2 : Hid (cmpQ p q = -c) := by show _ = _; rw [cmpQ_swap, HC.out]
  obtain ⟨sg, HS⟩ : ∃ c, Hid (q.num.sign = c) := ⟨_, rfl⟩
  have HS2 : Hid (cmpQ q 0 = sg) := by show _ = _; rw [← HS.out]; unfold cmpQ; simp
  have HZ : Hid _ := hA.lt
  rw [HC.out]
  go_wp2
  refine wp_region_M (by kernel_rfl) [4, 25, 26, 27, 28, 29, 30, 31, 32, 33, 34, 35, 36, 37, 38, 39, 40, 41, 42, 43, 44, 45, 46, 47, 48, 49, 50, 51, 52, 53, 54] [none, none, none, none, some 4, none, none, none, none, none, none, none, none, none, none, none, none, none, none, none, none, none, none, none, none, some 25, some 26, some 27, some 28, some 29, some 30, some 31, some 32, some 33, some 34, some 35, some 36, some 37, some 38, some 39, some 40, some 41, some 42, some 43, some 44, some 45, some 46, some 47, some 48, some 49, some 50, some 51, some 52, some 53, some 54] (fun U => by kernel_rfl) (fun L U wr => Below w.heap.size w wr ∧ KeepI w4 wr ∧ w4.heap.size ≤ wr.heap.size ∧ Blk 27 wr (w2.heap.size) #[.bool xA, .slice aA nA cA, .bool yA, .slice eA mA fA] ∧ Blk 27 wr (w3.heap.size) #[.bool xC, .slice aC nC cC, .bool yC, .slice eC mC fC] ∧ Blk 35 wr (w2.heap.size + 1) #[.bool xAr, .slice aAr nAr cAr, .bool yAr, .slice eAr mAr fAr] ∧ (L 0 = true → IS (.agg #[.bool xA, .slice aA nA cA, .bool yA, .slice eA mA fA]) (U 25) wr) ∧ (L 1 = true → IS (.agg #[.bool xC, .slice aC nC cC, .bool yC, .slice eC mC fC]) (U 26) wr) ∧ (L 2 = true → IS (.int .i64 (c)) (U 27) wr) ∧ (L 3 = true → IS (.int .i64 c) (U 28) wr) ∧ (L 4 = true → IS (.bool true) (U 29) wr) ∧ (L 5 = true → IS (.bool true) (U 30) wr) ∧ (L 6 = true → IS (.agg #[.bool xC, .slice aC nC cC, .bool yC, .slice eC mC fC]) (U 31) wr) ∧ (L 7 = true → IS (.agg #[.bool xA, .slice aA nA cA, .bool yA, .slice eA mA fA]) (U 32) wr) ∧ (L 8 = true → IS (.int .i64 (-c)) (U 33) wr) ∧ (L 9 = true → IS (.int .i64 c) (U 34) wr) ∧ (L 10 = true → IS (.int .i64 (-c)) (U 35) wr) ∧ (L 11 = true → IS (.bool true) (U 36) wr) ∧ (L 12 = true → IS (.bool true) (U 37) wr) ∧ (L 13 = true → IS (.bool true) (U 38) wr) ∧ (L 14 = true → IS (.agg #[.bool xA, .slice aA nA cA, .bool yA, .slice eA mA fA]) (U 39) wr) ∧ (L 15 = true → IS (.int .i64 (sg)) (U 40) wr) ∧ (L 16 = true → IS (.agg #[.bool xAr, .slice aAr nAr cAr, .bool yAr, .slice eAr mAr fAr]) (U 41) wr) ∧ (L 17 = true → RRT 0 400 (U 42) wr) ∧ (L 18 = true → IS (.int .i64 (sg)) (U 43) wr) ∧ (L 19 = true → IS (.bool true) (U 44) wr) ∧ (L 20 = true → IS (.bool true) (U 45) wr) ∧ (L 21 = true → IS (.bool true) (U 46) wr) ∧ (L 22 = true → IS (.agg #[.bool xA, .slice aA nA cA, .bool yA, .slice eA mA fA]) (U 47) wr) ∧ (L 23 = true → RAT (-q) (U 48) wr) ∧ (L 24 = true → TXQ (-q) (U 49) wr) ∧ (L 25 = true → IS (.agg #[.bool xAr, .slice aAr nAr cAr, .bool yAr, .slice eAr mAr fAr]) (U 50) wr) ∧ (L 26 = true → RRT (-q) 400 (U 51) wr) ∧ (L 27 = true → TXQ (-q) (U 52) wr) ∧ (L 28 = true → IS (.bool true) (U 53) wr) ∧ (L 29 = true → IS (.bool true) (U 54) wr) ∧ (L 30 = true → IS (.bool true) (U 4) wr)) (by kernel_rfl) ?_ ?_ ?_
  · exact fun U => ⟨hbw.drew, KeepI.below (Below.refl _ _).drew, Nat.le_refl _, oA.drew, oC.drew, oAr.drew, (fun h => by cases h), (fun h => by cases h), (fun h => by cases h), (fun h => by cases h), (fun h => by cases h), (fun h => by cases h), (fun h => by cases h), (fun h => by cases h), (fun h => by cases h), (fun h => by cases h), (fun h => by cases h), (fun h => by cases h), (fun h => by cases h), (fun h => by cases h), (fun h => by cases h), (fun h => by cases h), (fun h => by cases h), (fun h => by cases h), (fun h => by cases h), (fun h => by cases h), (fun h => by cases h), (fun h => by cases h), (fun h => by cases h), (fun h => by cases h), (fun h => by cases h), (fun h => by cases h), (fun h => by cases h), (fun h => by cases h), (fun h => by cases h), (fun h => by cases h), (fun h => by cases h)⟩
  · refine StepsU.run rfl ?_ ?_
    · intro L U wr hF hlk haf A K hA hK
      have HA : Hid (A = putAll _ _ U) := hA
      clear hA
      simp [Aft, Region.binds] at haf
      obtain ⟨fb, fk, fs, oA, oC, oAr, f0, f1, f2, f3, f4, f5, f6, f7, f8, f9, f10, f11, f12, f13, f14, f15, f16, f17, f18, f19, f20, f21, f22, f23, f24, f25, f26, f27, f28, f29, f30⟩ := hF
      have e5 : A.tmps[5]? = some (.pointer (some ⟨w2.heap.size, 0, none⟩)) := by rw [HA.out]; kernel_rfl
      obtain ⟨c0, c1, c2, c3⟩ := oA.four
      refine ⟨?_⟩
      go_simp
      refine hK (upd U 25 (.agg #[.bool xA, .slice aA nA cA, .bool yA, .slice eA mA fA])) _ _ ?_ ?_
      · rw [HA.out]; kernel_rfl
      · exact ⟨fb, fk, fs, oA, oC, oAr, (fun _ => rfl), f1, f2, f3, f4, f5, f6, f7, f8, f9, f10, f11, f12, f13, f14, f15, f16, f17, f18, f19, f20, f21, f22, f23, f24, f25, f26, f27, f28, f29, f30⟩
    refine StepsU.run rfl ?_ ?_
    · intro L U wr hF hlk haf A K hA hK
      have HA : Hid (A = putAll _ _ U) := hA
      clear hA
      simp [Aft, Region.binds] at haf
      obtain ⟨fb, fk, fs, oA, oC, oAr, f0, f1, f2, f3, f4, f5, f6, f7, f8, f9, f10, f11, f12, f13, f14, f15, f16, f17, f18, f19, f20, f21, f22, f23, f24, f25, f26, f27, f28, f29, f30⟩ := hF
      have e7 : A.tmps[7]? = some (.pointer (some ⟨w3.heap.size, 0, none⟩)) := by rw [HA.out]; kernel_rfl
      obtain ⟨c0, c1, c2, c3⟩ := oC.four
      refine ⟨?_⟩
      go_simp
      refine hK (upd U 26 (.agg #[.bool xC, .slice aC nC cC, .bool yC, .slice eC mC fC])) _ _ ?_ ?_
      · rw [HA.out]; kernel_rfl
      · exact ⟨fb, fk, fs, oA, oC, oAr, f0, (fun _ => rfl), f2, f3, f4, f5, f6, f7, f8, f9, f10, f11, f12, f13, f14, f15, f16, f17, f18, f19, f20, f21, f22, f23, f24, f25, f26, f27, f28, f29, f30⟩
    refine StepsU.run rfl ?_ ?_
    · intro L U wr hF hlk haf A K hA hK
      have HA : Hid (A = putAll _ _ U) := hA
      clear hA
      simp [Aft, Region.binds] at haf
      obtain ⟨fb, fk, fs, oA, oC, oAr, f0, f1, f2, f3, f4, f5, f6, f7, f8, f9, f10, f11, f12, f13, f14, f15, f16, f17, f18, f19, f20, f21, f22, f23, f24, f25, f26, f27, f28, f29, f30⟩ := hF
      have g0 := f0 (by simp [haf])
      have e25 := rd HA.out 25 (by kernel_rfl) g0
      have g1 := f1 (by simp [haf])
      have e26 := rd HA.out 26 (by kernel_rfl) g1
      refine ⟨?_⟩
      go_simp
      refine (qcmp_z _ _ q p c _ (hA.val.keepI fk) (hC.val.keepI fk) HC.out).mono ?_
      rintro e w1 ⟨rfl, hb⟩
      go_simp
      refine hK (upd U 27 (.int .i64 (c))) _ _ ?_ ?_
      · rw [HA.out]; kernel_rfl
      · exact ⟨(fb.step hb (Nat.le_refl _)), (fk.trans (KeepI.below hb)), (Nat.le_trans fs hb.size), (oA.stay hb), (oC.stay hb), (oAr.stay hb), (mv mo_is (KeepI.below hb) f0), (mv mo_is (KeepI.below hb) f1), (fun _ => rfl), (mv mo_is (KeepI.below hb) f3), (mv mo_is (KeepI.below hb) f4), (mv mo_is (KeepI.below hb) f5), (mv mo_is (KeepI.below hb) f6), (mv mo_is (KeepI.below hb) f7), (mv mo_is (KeepI.below hb) f8), (mv mo_is (KeepI.below hb) f9), (mv mo_is (KeepI.below hb) f10), (mv mo_is (KeepI.below hb) f11), (mv mo_is (KeepI.below hb) f12), (mv mo_is (KeepI.below hb) f13), (mv mo_is (KeepI.below hb) f14), (mv mo_is (KeepI.below hb) f15), (mv mo_is (KeepI.below hb) f16), (mv mo_rrt (KeepI.below hb) f17), (mv mo_is (KeepI.below hb) f18), (mv mo_is (KeepI.below hb) f19), (mv mo_is (KeepI.below hb) f20), (mv mo_is (KeepI.below hb) f21), (mv mo_is (KeepI.below hb) f22), (mv mo_rat (KeepI.below hb) f23), (mv mo_txq (KeepI.below hb) f24), (mv mo_is (KeepI.below hb) f25), (mv mo_rrt (KeepI.below hb) f26), (mv mo_txq (KeepI.below hb) f27), (mv mo_is (KeepI.below hb) f28), (mv mo_is (KeepI.below hb) f29), (mv mo_is (KeepI.below hb) f30)⟩
    refine StepsU.run rfl ?_ ?_
    · intro L U wr hF hlk haf A K hA hK
      have HA : Hid (A = putAll _ _ U) := hA
      clear hA
      simp [Aft, Region.binds] at haf
      obtain ⟨fb, fk, fs, oA, oC, oAr, f0, f1, f2, f3, f4, f5, f6, f7, f8, f9, f10, f11, f12, f13, f14, f15, f16, f17, f18, f19, f20, f21, f22, f23, f24, f25, f26, f27, f28, f29, f30⟩ := hF
      have e9 : A.tmps[9]? = some (.int .i64 c) := by rw [HA.out]; kernel_rfl
      refine ⟨?_⟩
      go_simp
      refine hK (upd U 28 (.int .i64 c)) _ _ ?_ ?_
      · rw [HA.out]; kernel_rfl
      · exact ⟨fb, fk, fs, oA, oC, oAr, f0, f1, f2, (fun _ => rfl), f4, f5, f6, f7, f8, f9, f10, f11, f12, f13, f14, f15, f16, f17, f18, f19, f20, f21, f22, f23, f24, f25, f26, f27, f28, f29, f30⟩
    refine StepsU.run rfl ?_ ?_
    · intro L U wr hF hlk haf A K hA hK
      have HA : Hid (A = putAll _ _ U) := hA
      clear hA
      simp [Aft, Region.binds] at haf
      obtain ⟨fb, fk, fs, oA, oC, oAr, f0, f1, f2, f3, f4, f5, f6, f7, f8, f9, f10, f11, f12, f13, f14, f15, f16, f17, f18, f19, f20, f21, f22, f23, f24, f25, f26, f27, f28, f29, f30⟩ := hF
      have g2 := f2 (by simp [haf])
      have g3 := f3 (by simp [haf])
      have ee : ((c : Int) == c) = true := by simp
      have e27 := rd HA.out 27 (by kernel_rfl) g2
      have e28 := rd HA.out 28 (by kernel_rfl) g3
      refine ⟨?_⟩
      go_simp
      refine hK (upd U 29 (.bool true)) _ _ ?_ ?_
      · rw [HA.out]; kernel_rfl
      · exact ⟨fb, fk, fs, oA, oC, oAr, f0, f1, f2, f3, (fun _ => rfl), f5, f6, f7, f8, f9, f10, f11, f12, f13, f14, f15, f16, f17, f18, f19, f20, f21, f22, f23, f24, f25, f26, f27, f28, f29, f30⟩
    refine StepsU.run rfl ?_ ?_
    · intro L U wr hF hlk haf A K hA hK
      have HA : Hid (A = putAll _ _ U) := hA
      clear hA
      simp [Aft, Region.binds] at haf
      obtain ⟨fb, fk, fs, oA, oC, oAr, f0, f1, f2, f3, f4, f5, f6, f7, f8, f9, f10, f11, f12, f13, f14, f15, f16, f17, f18, f19, f20, f21, f22, f23, f24, f25, f26, f27, f28, f29, f30⟩ := hF
      have g4 := f4 (by simp [haf])
      have e29 := rd HA.out 29 (by kernel_rfl) rfl
      refine ⟨?_⟩
      go_simp
      refine hK (upd U 30 (U 29)) _ _ ?_ ?_
      · rw [HA.out]; kernel_rfl
      · exact ⟨fb, fk, fs, oA, oC, oAr, f0, f1, f2, f3, f4, (fun _ => g4), f6, f7, f8, f9, f10, f11, f12, f13, f14, f15, f16, f17, f18, f19, f20, f21, f22, f23, f24, f25, f26, f27, f28, f29, f30⟩
    refine StepsU.cond ?_ ?_
    · intro L U wr hF hlk haf A K hA hK
      have HA : Hid (A = putAll _ _ U) := hA
      clear hA
      simp [Aft, Region.binds] at haf
      obtain ⟨fb, fk, fs, oA, oC, oAr, f0, f1, f2, f3, f4, f5, f6, f7, f8, f9, f10, f11, f12, f13, f14, f15, f16, f17, f18, f19, f20, f21, f22, f23, f24, f25, f26, f27, f28, f29, f30⟩ := hF
      have gg := f5 (by simp [haf])
      have ee := rd HA.out 30 (by kernel_rfl) gg
      refine ⟨?_⟩
      rw [if_pos (by simp [Region.wanted, yielded, ee])]
      refine Gate.out ?_
      clear gg ee
      have e7 : A.tmps[7]? = some (.pointer (some ⟨w3.heap.size, 0, none⟩)) := by rw [HA.out]; kernel_rfl
      obtain ⟨c0, c1, c2, c3⟩ := oC.four
      refine ⟨?_⟩
      go_simp
      refine hK (upd U 31 (.agg #[.bool xC, .slice aC nC cC, .bool yC, .slice eC mC fC])) _ _ ?_ ?_
      · rw [HA.out]; kernel_rfl
      · exact ⟨fb, fk, fs, oA, oC, oAr, f0, f1, f2, f3, f4, f5, (fun _ => rfl), f7, f8, f9, f10, f11, f12, f13, f14, f15, f16, f17, f18, f19, f20, f21, f22, f23, f24, f25, f26, f27, f28, f29, f30⟩
    refine StepsU.cond ?_ ?_
    · intro L U wr hF hlk haf A K hA hK
      have HA : Hid (A = putAll _ _ U) := hA
      clear hA
      simp [Aft, Region.binds] at haf
      obtain ⟨fb, fk, fs, oA, oC, oAr, f0, f1, f2, f3, f4, f5, f6, f7, f8, f9, f10, f11, f12, f13, f14, f15, f16, f17, f18, f19, f20, f21, f22, f23, f24, f25, f26, f27, f28, f29, f30⟩ := hF
      have gg := f5 (by simp [haf])
      have ee := rd HA.out 30 (by kernel_rfl) gg
      refine ⟨?_⟩
      rw [if_pos (by simp [Region.wanted, yielded, ee])]
      refine Gate.out ?_
      clear gg ee
      have e5 : A.tmps[5]? = some (.pointer (some ⟨w2.heap.size, 0, none⟩)) := by rw [HA.out]; kernel_rfl
      obtain ⟨c0, c1, c2, c3⟩ := oA.four
      refine ⟨?_⟩
      go_simp
      refine hK (upd U 32 (.agg #[.bool xA, .slice aA nA cA, .bool yA, .slice eA mA fA])) _ _ ?_ ?_
      · rw [HA.out]; kernel_rfl
      · exact ⟨fb, fk, fs, oA, oC, oAr, f0, f1, f2, f3, f4, f5, f6, (fun _ => rfl), f8, f9, f10, f11, f12, f13, f14, f15, f16, f17, f18, f19, f20, f21, f22, f23, f24, f25, f26, f27, f28, f29, f30⟩
    refine StepsU.cond ?_ ?_
    · intro L U wr hF hlk haf A K hA hK
      have HA : Hid (A = putAll _ _ U) := hA
      clear hA
      simp [Aft, Region.binds] at haf
      obtain ⟨fb, fk, fs, oA, oC, oAr, f0, f1, f2, f3, f4, f5, f6, f7, f8, f9, f10, f11, f12, f13, f14, f15, f16, f17, f18, f19, f20, f21, f22, f23, f24, f25, f26, f27, f28, f29, f30⟩ := hF
      have gg := f5 (by simp [haf])
      have ee := rd HA.out 30 (by kernel_rfl) gg
      refine ⟨?_⟩
      rw [if_pos (by simp [Region.wanted, yielded, ee])]
      refine Gate.out ?_
      clear gg ee
      have g6 := f6 (by simp [haf])
      have e31 := rd HA.out 31 (by kernel_rfl) g6
      have g7 := f7 (by simp [haf])
      have e32 := rd HA.out 32 (by kernel_rfl) g7
      refine ⟨?_⟩
      go_simp
      refine (qcmp_z _ _ p q (-c) _ (hC.val.keepI fk) (hA.val.keepI fk) HC2.out).mono ?_
      rintro e w1 ⟨rfl, hb⟩
      go_simp
      refine hK (upd U 33 (.int .i64 (-c))) _ _ ?_ ?_
      · rw [HA.out]; kernel_rfl
      · exact ⟨(fb.step hb (Nat.le_refl _)), (fk.trans (KeepI.below hb)), (Nat.le_trans fs hb.size), (oA.stay hb), (oC.stay hb), (oAr.stay hb), (mv mo_is (KeepI.below hb) f0), (mv mo_is (KeepI.below hb) f1), (mv mo_is (KeepI.below hb) f2), (mv mo_is (KeepI.below hb) f3), (mv mo_is (KeepI.below hb) f4), (mv mo_is (KeepI.below hb) f5), (mv mo_is (KeepI.below hb) f6), (mv mo_is (KeepI.below hb) f7), (fun _ => rfl), (mv mo_is (KeepI.below hb) f9), (mv mo_is (KeepI.below hb) f10), (mv mo_is (KeepI.below hb) f11), (mv mo_is (KeepI.below hb) f12), (mv mo_is (KeepI.below hb) f13), (mv mo_is (KeepI.below hb) f14), (mv mo_is (KeepI.below hb) f15), (mv mo_is (KeepI.below hb) f16), (mv mo_rrt (KeepI.below hb) f17), (mv mo_is (KeepI.below hb) f18), (mv mo_is (KeepI.below hb) f19), (mv mo_is (KeepI.below hb) f20), (mv mo_is (KeepI.below hb) f21), (mv mo_is (KeepI.below hb) f22), (mv mo_rat (KeepI.below hb) f23), (mv mo_txq (KeepI.below hb) f24), (mv mo_is (KeepI.below hb) f25), (mv mo_rrt (KeepI.below hb) f26), (mv mo_txq (KeepI.below hb) f27), (mv mo_is (KeepI.below hb) f28), (mv mo_is (KeepI.below hb) f29), (mv mo_is (KeepI.below hb) f30)⟩
    refine StepsU.cond ?_ ?_
    · intro L U wr hF hlk haf A K hA hK
      have HA : Hid (A = putAll _ _ U) := hA
      clear hA
      simp [Aft, Region.binds] at haf
      obtain ⟨fb, fk, fs, oA, oC, oAr, f0, f1, f2, f3, f4, f5, f6, f7, f8, f9, f10, f11, f12, f13, f14, f15, f16, f17, f18, f19, f20, f21, f22, f23, f24, f25, f26, f27, f28, f29, f30⟩ := hF
      have gg := f5 (by simp [haf])
      have ee := rd HA.out 30 (by kernel_rfl) gg
      refine ⟨?_⟩
      rw [if_pos (by simp [Region.wanted, yielded, ee])]
      refine Gate.out ?_
      clear gg ee
      have e9 : A.tmps[9]? = some (.int .i64 c) := by rw [HA.out]; kernel_rfl
      refine ⟨?_⟩
      go_simp
      refine hK (upd U 34 (.int .i64 c)) _ _ ?_ ?_
      · rw [HA.out]; kernel_rfl
      · exact ⟨fb, fk, fs, oA, oC, oAr, f0, f1, f2, f3, f4, f5, f6, f7, f8, (fun _ => rfl), f10, f11, f12, f13, f14, f15, f16, f17, f18, f19, f20, f21, f22, f23, f24, f25, f26, f27, f28, f29, f30⟩
    refine StepsU.cond ?_ ?_
    · intro L U wr hF hlk haf A K hA hK
      have HA : Hid (A = putAll _ _ U) := hA
      clear hA
      simp [Aft, Region.binds] at haf
      obtain ⟨fb, fk, fs, oA, oC, oAr, f0, f1, f2, f3, f4, f5, f6, f7, f8, f9, f10, f11, f12, f13, f14, f15, f16, f17, f18, f19, f20, f21, f22, f23, f24, f25, f26, f27, f28, f29, f30⟩ := hF
      have gg := f5 (by simp [haf])
      have ee := rd HA.out 30 (by kernel_rfl) gg
      refine ⟨?_⟩
      rw [if_pos (by simp [Region.wanted, yielded, ee])]
      refine Gate.out ?_
      clear gg ee
      have g9 := f9 (by simp [haf])
      have hw : IntKind.i64.wrap (-c) = -c   := wrap_small64 (by have := HR.out; omega) (by have := HR.out; omega)
      have e34 := rd HA.out 34 (by kernel_rfl) g9
      refine ⟨?_⟩
      go_simp
      refine hK (upd U 35 (.int .i64 (-c))) _ _ ?_ ?_
      · rw [HA.out]; kernel_rfl
      · exact ⟨fb, fk, fs, oA, oC, oAr, f0, f1, f2, f3, f4, f5, f6, f7, f8, f9, (fun _ => rfl), f11, f12, f13, f14, f15, f16, f17, f18, f19, f20, f21, f22, f23, f24, f25, f26, f27, f28, f29, f30⟩
    refine StepsU.cond ?_ ?_
    · intro L U wr hF hlk haf A K hA hK
      have HA : Hid (A = putAll _ _ U) := hA
      clear hA
      simp [Aft, Region.binds] at haf
      obtain ⟨fb, fk, fs, oA, oC, oAr, f0, f1, f2, f3, f4, f5, f6, f7, f8, f9, f10, f11, f12, f13, f14, f15, f16, f17, f18, f19, f20, f21, f22, f23, f24, f25, f26, f27, f28, f29, f30⟩ := hF
      have gg := f5 (by simp [haf])
      have ee := rd HA.out 30 (by kernel_rfl) gg
      refine ⟨?_⟩
      rw [if_pos (by simp [Region.wanted, yielded, ee])]
      refine Gate.out ?_
      clear gg ee
      have g8 := f8 (by simp [haf])
      have g10 := f10 (by simp [haf])
      have ee : ((-c : Int) == -c) = true := by simp
      have e33 := rd HA.out 33 (by kernel_rfl) g8
      have e35 := rd HA.out 35 (by kernel_rfl) g10
      refine ⟨?_⟩
      go_simp
      refine hK (upd U 36 (.bool true)) _ _ ?_ ?_
      · rw [HA.out]; kernel_rfl
      · exact ⟨fb, fk, fs, oA, oC, oAr, f0, f1, f2, f3, f4, f5, f6, f7, f8, f9, f10, (fun _ => rfl), f12, f13, f14, f15, f16, f17, f18, f19, f20, f21, f22, f23, f24, f25, f26, f27, f28, f29, f30⟩
    refine StepsU.run rfl ?_ ?_
    · intro L U wr hF hlk haf A K hA hK
      have HA : Hid (A = putAll _ _ U) := hA
      clear hA
      simp [Aft, Region.binds] at haf
      obtain ⟨fb, fk, fs, oA, oC, oAr, f0, f1, f2, f3, f4, f5, f6, f7, f8, f9, f10, f11, f12, f13, f14, f15, f16, f17, f18, f19, f20, f21, f22, f23, f24, f25, f26, f27, f28, f29, f30⟩ := hF
      have g5 := f5 (by simp [haf])
      have g11 := f11 (by simp [haf])
      have e30 := rd HA.out 30 (by kernel_rfl) g5
      have e36 := rd HA.out 36 (by kernel_rfl) g11
      refine ⟨?_⟩
      go_simp
      refine hK (upd U 37 (.bool true)) _ _ ?_ ?_
      · rw [HA.out]; kernel_rfl
      · exact ⟨fb, fk, fs, oA, oC, oAr, f0, f1, f2, f3, f4, f5, f6, f7, f8, f9, f10, f11, (fun _ => rfl), f13, f14, f15, f16, f17, f18, f19, f20, f21, f22, f23, f24, f25, f26, f27, f28, f29, f30⟩
    refine StepsU.run rfl ?_ ?_
    · intro L U wr hF hlk haf A K hA hK
      have HA : Hid (A = putAll _ _ U) := hA
      clear hA
      simp [Aft, Region.binds] at haf
      obtain ⟨fb, fk, fs, oA, oC, oAr, f0, f1, f2, f3, f4, f5, f6, f7, f8, f9, f10, f11, f12, f13, f14, f15, f16, f17, f18, f19, f20, f21, f22, f23, f24, f25, f26, f27, f28, f29, f30⟩ := hF
      have g12 := f12 (by simp [haf])
      have e37 := rd HA.out 37 (by kernel_rfl) rfl
      refine ⟨?_⟩
      go_simp
      refine hK (upd U 38 (U 37)) _ _ ?_ ?_
      · rw [HA.out]; kernel_rfl
      · exact ⟨fb, fk, fs, oA, oC, oAr, f0, f1, f2, f3, f4, f5, f6, f7, f8, f9, f10, f11, f12, (fun _ => g12), f14, f15, f16, f17, f18, f19, f20, f21, f22, f23, f24, f25, f26, f27, f28, f29, f30⟩
    refine StepsU.cond ?_ ?_
    · intro L U wr hF hlk haf A K hA hK
      have HA : Hid (A = putAll _ _ U) := hA
      clear hA
      simp [Aft, Region.binds] at haf
      obtain ⟨fb, fk, fs, oA, oC, oAr, f0, f1, f2, f3, f4, f5, f6, f7, f8, f9, f10, f11, f12, f13, f14, f15, f16, f17, f18, f19, f20, f21, f22, f23, f24, f25, f26, f27, f28, f29, f30⟩ := hF
      have gg := f13 (by simp [haf])
      have ee := rd HA.out 38 (by kernel_rfl) gg
      refine ⟨?_⟩
      rw [if_pos (by simp [Region.wanted, yielded, ee])]
      refine Gate.out ?_
      clear gg ee
      have e5 : A.tmps[5]? = some (.pointer (some ⟨w2.heap.size, 0, none⟩)) := by rw [HA.out]; kernel_rfl
      obtain ⟨c0, c1, c2, c3⟩ := oA.four
      refine ⟨?_⟩
      go_simp
      refine hK (upd U 39 (.agg #[.bool xA, .slice aA nA cA, .bool yA, .slice eA mA fA])) _ _ ?_ ?_
      · rw [HA.out]; kernel_rfl
      · exact ⟨fb, fk, fs, oA, oC, oAr, f0, f1, f2, f3, f4, f5, f6, f7, f8, f9, f10, f11, f12, f13, (fun _ => rfl), f15, f16, f17, f18, f19, f20, f21, f22, f23, f24, f25, f26, f27, f28, f29, f30⟩
    refine StepsU.cond ?_ ?_
    · intro L U wr hF hlk haf A K hA hK
      have HA : Hid (A = putAll _ _ U) := hA
      clear hA
      simp [Aft, Region.binds] at haf
      obtain ⟨fb, fk, fs, oA, oC, oAr, f0, f1, f2, f3, f4, f5, f6, f7, f8, f9, f10, f11, f12, f13, f14, f15, f16, f17, f18, f19, f20, f21, f22, f23, f24, f25, f26, f27, f28, f29, f30⟩ := hF
      have gg := f13 (by simp [haf])
      have ee := rd HA.out 38 (by kernel_rfl) gg
      refine ⟨?_⟩
      rw [if_pos (by simp [Region.wanted, yielded, ee])]
      refine Gate.out ?_
      clear gg ee
      have g14 := f14 (by simp [haf])
      have e39 := rd HA.out 39 (by kernel_rfl) g14
      refine ⟨?_⟩
      go_simp
      refine (qsign_any _ q sg _ (hA.val.keepI fk) HS.out).mono ?_
      rintro e w1 ⟨rfl, hb⟩
      go_simp
      refine hK (upd U 40 (.int .i64 (sg))) _ _ ?_ ?_
      · rw [HA.out]; kernel_rfl
      · exact ⟨(fb.step hb (Nat.le_refl _)), (fk.trans (KeepI.below hb)), (Nat.le_trans fs hb.size), (oA.stay hb), (oC.stay hb), (oAr.stay hb), (mv mo_is (KeepI.below hb) f0), (mv mo_is (KeepI.below hb) f1), (mv mo_is (KeepI.below hb) f2), (mv mo_is (KeepI.below hb) f3), (mv mo_is (KeepI.below hb) f4), (mv mo_is (KeepI.below hb) f5), (mv mo_is (KeepI.below hb) f6), (mv mo_is (KeepI.below hb) f7), (mv mo_is (KeepI.below hb) f8), (mv mo_is (KeepI.below hb) f9), (mv mo_is (KeepI.below hb) f10), (mv mo_is (KeepI.below hb) f11), (mv mo_is (KeepI.below hb) f12), (mv mo_is (KeepI.below hb) f13), (mv mo_is (KeepI.below hb) f14), (fun _ => rfl), (mv mo_is (KeepI.below hb) f16), (mv mo_rrt (KeepI.below hb) f17), (mv mo_is (KeepI.below hb) f18), (mv mo_is (KeepI.below hb) f19), (mv mo_is (KeepI.below hb) f20), (mv mo_is (KeepI.below hb) f21), (mv mo_is (KeepI.below hb) f22), (mv mo_rat (KeepI.below hb) f23), (mv mo_txq (KeepI.below hb) f24), (mv mo_is (KeepI.below hb) f25), (mv mo_rrt (KeepI.below hb) f26), (mv mo_txq (KeepI.below hb) f27), (mv mo_is (KeepI.below hb) f28), (mv mo_is (KeepI.below hb) f29), (mv mo_is (KeepI.below hb) f30)⟩
    refine StepsU.cond ?_ ?_
    · intro L U wr hF hlk haf A K hA hK
      have HA : Hid (A = putAll _ _ U) := hA
      clear hA
      simp [Aft, Region.binds] at haf
      obtain ⟨fb, fk, fs, oA, oC, oAr, f0, f1, f2, f3, f4, f5, f6, f7, f8, f9, f10, f11, f12, f13, f14, f15, f16, f17, f18, f19, f20, f21, f22, f23, f24, f25, f26, f27, f28, f29, f30⟩ := hF
      have gg := f13 (by simp [haf])
      have ee := rd HA.out 38 (by kernel_rfl) gg
      refine ⟨?_⟩
      rw [if_pos (by simp [Region.wanted, yielded, ee])]
      refine Gate.out ?_
      clear gg ee
      have e6 : A.tmps[6]? = some (.pointer (some ⟨w2.heap.size + 1, 0, none⟩)) := by rw [HA.out]; kernel_rfl
      obtain ⟨c0, c1, c2, c3⟩ := oAr.four
      refine ⟨?_⟩
      go_simp
      refine hK (upd U 41 (.agg #[.bool xAr, .slice aAr nAr cAr, .bool yAr, .slice eAr mAr fAr])) _ _ ?_ ?_
      · rw [HA.out]; kernel_rfl
      · exact ⟨fb, fk, fs, oA, oC, oAr, f0, f1, f2, f3, f4, f5, f6, f7, f8, f9, f10, f11, f12, f13, f14, f15, (fun _ => rfl), f17, f18, f19, f20, f21, f22, f23, f24, f25, f26, f27, f28, f29, f30⟩
    refine StepsU.cond ?_ ?_
    · intro L U wr hF hlk haf A K hA hK
      have HA : Hid (A = putAll _ _ U) := hA
      clear hA
      simp [Aft, Region.binds] at haf
      obtain ⟨fb, fk, fs, oA, oC, oAr, f0, f1, f2, f3, f4, f5, f6, f7, f8, f9, f10, f11, f12, f13, f14, f15, f16, f17, f18, f19, f20, f21, f22, f23, f24, f25, f26, f27, f28, f29, f30⟩ := hF
      have gg := f13 (by simp [haf])
      have ee := rd HA.out 38 (by kernel_rfl) gg
      refine ⟨?_⟩
      rw [if_pos (by simp [Region.wanted, yielded, ee])]
      refine Gate.out ?_
      clear gg ee
      refine ⟨?_⟩
      go_simp
      refine hK (upd U 42 (.agg #[.bool false, .slice none 0 0, .bool false, .slice none 0 0])) _ _ ?_ ?_
      · rw [HA.out]; kernel_rfl
      · exact ⟨fb, fk, fs, oA, oC, oAr, f0, f1, f2, f3, f4, f5, f6, f7, f8, f9, f10, f11, f12, f13, f14, f15, f16, (fun _ => QRP.zero.val), f18, f19, f20, f21, f22, f23, f24, f25, f26, f27, f28, f29, f30⟩
    refine StepsU.cond ?_ ?_
    · intro L U wr hF hlk haf A K hA hK
      have HA : Hid (A = putAll _ _ U) := hA
      clear hA
      simp [Aft, Region.binds] at haf
      obtain ⟨fb, fk, fs, oA, oC, oAr, f0, f1, f2, f3, f4, f5, f6, f7, f8, f9, f10, f11, f12, f13, f14, f15, f16, f17, f18, f19, f20, f21, f22, f23, f24, f25, f26, f27, f28, f29, f30⟩ := hF
      have gg := f13 (by simp [haf])
      have ee := rd HA.out 38 (by kernel_rfl) gg
      refine ⟨?_⟩
      rw [if_pos (by simp [Region.wanted, yielded, ee])]
      refine Gate.out ?_
      clear gg ee
      have g16 := f16 (by simp [haf])
      have e41 := rd HA.out 41 (by kernel_rfl) g16
      have g17 := f17 (by simp [haf])
      have e42 := rd HA.out 42 (by kernel_rfl) rfl
      refine ⟨?_⟩
      go_simp
      refine (rqcmp_z _ _ q 0 sg _ (hAr.val.keepI fk) g17 HS2.out).mono ?_
      rintro e w1 ⟨rfl, hb⟩
      go_simp
      refine hK (upd U 43 (.int .i64 (sg))) _ _ ?_ ?_
      · rw [HA.out]; kernel_rfl
      · exact ⟨(fb.step hb (Nat.le_refl _)), (fk.trans (KeepI.below hb)), (Nat.le_trans fs hb.size), (oA.stay hb), (oC.stay hb), (oAr.stay hb), (mv mo_is (KeepI.below hb) f0), (mv mo_is (KeepI.below hb) f1), (mv mo_is (KeepI.below hb) f2), (mv mo_is (KeepI.below hb) f3), (mv mo_is (KeepI.below hb) f4), (mv mo_is (KeepI.below hb) f5), (mv mo_is (KeepI.below hb) f6), (mv mo_is (KeepI.below hb) f7), (mv mo_is (KeepI.below hb) f8), (mv mo_is (KeepI.below hb) f9), (mv mo_is (KeepI.below hb) f10), (mv mo_is (KeepI.below hb) f11), (mv mo_is (KeepI.below hb) f12), (mv mo_is (KeepI.below hb) f13), (mv mo_is (KeepI.below hb) f14), (mv mo_is (KeepI.below hb) f15), (mv mo_is (KeepI.below hb) f16), (mv mo_rrt (KeepI.below hb) f17), (fun _ => rfl), (mv mo_is (KeepI.below hb) f19), (mv mo_is (KeepI.below hb) f20), (mv mo_is (KeepI.below hb) f21), (mv mo_is (KeepI.below hb) f22), (mv mo_rat (KeepI.below hb) f23), (mv mo_txq (KeepI.below hb) f24), (mv mo_is (KeepI.below hb) f25), (mv mo_rrt (KeepI.below hb) f26), (mv mo_txq (KeepI.below hb) f27), (mv mo_is (KeepI.below hb) f28), (mv mo_is (KeepI.below hb) f29), (mv mo_is (KeepI.below hb) f30)⟩
    refine StepsU.cond ?_ ?_
    · intro L U wr hF hlk haf A K hA hK
      have HA : Hid (A = putAll _ _ U) := hA
      clear hA
      simp [Aft, Region.binds] at haf
      obtain ⟨fb, fk, fs, oA, oC, oAr, f0, f1, f2, f3, f4, f5, f6, f7, f8, f9, f10, f11, f12, f13, f14, f15, f16, f17, f18, f19, f20, f21, f22, f23, f24, f25, f26, f27, f28, f29, f30⟩ := hF
      have gg := f13 (by simp [haf])
      have ee := rd HA.out 38 (by kernel_rfl) gg
      refine ⟨?_⟩
      rw [if_pos (by simp [Region.wanted, yielded, ee])]
      refine Gate.out ?_
      clear gg ee
      have g15 := f15 (by simp [haf])
      have g18 := f18 (by simp [haf])
      have ee : ((sg : Int) == sg) = true := by simp
      have e40 := rd HA.out 40 (by kernel_rfl) g15
      have e43 := rd HA.out 43 (by kernel_rfl) g18
      refine ⟨?_⟩
      go_simp
      refine hK (upd U 44 (.bool true)) _ _ ?_ ?_
      · rw [HA.out]; kernel_rfl
      · exact ⟨fb, fk, fs, oA, oC, oAr, f0, f1, f2, f3, f4, f5, f6, f7, f8, f9, f10, f11, f12, f13, f14, f15, f16, f17, f18, (fun _ => rfl), f20, f21, f22, f23, f24, f25, f26, f27, f28, f29, f30⟩
    refine StepsU.run rfl ?_ ?_
    · intro L U wr hF hlk haf A K hA hK
      have HA : Hid (A = putAll _ _ U) := hA
      clear hA
      simp [Aft, Region.binds] at haf
      obtain ⟨fb, fk, fs, oA, oC, oAr, f0, f1, f2, f3, f4, f5, f6, f7, f8, f9, f10, f11, f12, f13, f14, f15, f16, f17, f18, f19, f20, f21, f22, f23, f24, f25, f26, f27, f28, f29, f30⟩ := hF
      have g13 := f13 (by simp [haf])
      have g19 := f19 (by simp [haf])
      have e38 := rd HA.out 38 (by kernel_rfl) g13
      have e44 := rd HA.out 44 (by kernel_rfl) g19
      refine ⟨?_⟩
      go_simp
      refine hK (upd U 45 (.bool true)) _ _ ?_ ?_
      · rw [HA.out]; kernel_rfl
      · exact ⟨fb, fk, fs, oA, oC, oAr, f0, f1, f2, f3, f4, f5, f6, f7, f8, f9, f10, f11, f12, f13, f14, f15, f16, f17, f18, f19, (fun _ => rfl), f21, f22, f23, f24, f25, f26, f27, f28, f29, f30⟩
    refine StepsU.run rfl ?_ ?_
    · intro L U wr hF hlk haf A K hA hK
      have HA : Hid (A = putAll _ _ U) := hA
      clear hA
      simp [Aft, Region.binds] at haf
      obtain ⟨fb, fk, fs, oA, oC, oAr, f0, f1, f2, f3, f4, f5, f6, f7, f8, f9, f10, f11, f12, f13, f14, f15, f16, f17, f18, f19, f20, f21, f22, f23, f24, f25, f26, f27, f28, f29, f30⟩ := hF
      have g20 := f20 (by simp [haf])
      have e45 := rd HA.out 45 (by kernel_rfl) rfl
      refine ⟨?_⟩
      go_simp
      refine hK (upd U 46 (U 45)) _ _ ?_ ?_
      · rw [HA.out]; kernel_rfl
      · exact ⟨fb, fk, fs, oA, oC, oAr, f0, f1, f2, f3, f4, f5, f6, f7, f8, f9, f10, f11, f12, f13, f14, f15, f16, f17, f18, f19, f20, (fun _ => g20), f22, f23, f24, f25, f26, f27, f28, f29, f30⟩
    refine StepsU.cond ?_ ?_
    · intro L U wr hF hlk haf A K hA hK
      have HA : Hid (A = putAll _ _ U) := hA
      clear hA
      simp [Aft, Region.binds] at haf
      obtain ⟨fb, fk, fs, oA, oC, oAr, f0, f1, f2, f3, f4, f5, f6, f7, f8, f9, f10, f11, f12, f13, f14, f15, f16, f17, f18, f19, f20, f21, f22, f23, f24, f25, f26, f27, f28, f29, f30⟩ := hF
      have gg := f21 (by simp [haf])
      have ee := rd HA.out 46 (by kernel_rfl) gg
      refine ⟨?_⟩
      rw [if_pos (by simp [Region.wanted, yielded, ee])]
      refine Gate.out ?_
      clear gg ee
      have e5 : A.tmps[5]? = some (.pointer (some ⟨w2.heap.size, 0, none⟩)) := by rw [HA.out]; kernel_rfl
      obtain ⟨c0, c1, c2, c3⟩ := oA.four
      refine ⟨?_⟩
      go_simp
      refine hK (upd U 47 (.agg #[.bool xA, .slice aA nA cA, .bool yA, .slice eA mA fA])) _ _ ?_ ?_
      · rw [HA.out]; kernel_rfl
      · exact ⟨fb, fk, fs, oA, oC, oAr, f0, f1, f2, f3, f4, f5, f6, f7, f8, f9, f10, f11, f12, f13, f14, f15, f16, f17, f18, f19, f20, f21, (fun _ => rfl), f23, f24, f25, f26, f27, f28, f29, f30⟩
    refine StepsU.cond ?_ ?_
    · intro L U wr hF hlk haf A K hA hK
      have HA : Hid (A = putAll _ _ U) := hA
      clear hA
      simp [Aft, Region.binds] at haf
      obtain ⟨fb, fk, fs, oA, oC, oAr, f0, f1, f2, f3, f4, f5, f6, f7, f8, f9, f10, f11, f12, f13, f14, f15, f16, f17, f18, f19, f20, f21, f22, f23, f24, f25, f26, f27, f28, f29, f30⟩ := hF
      have gg := f21 (by simp [haf])
      have ee := rd HA.out 46 (by kernel_rfl) gg
      refine ⟨?_⟩
      rw [if_pos (by simp [Region.wanted, yielded, ee])]
      refine Gate.out ?_
      clear gg ee
      have g22 := f22 (by simp [haf])
      have e47 := rd HA.out 47 (by kernel_rfl) g22
      refine ⟨?_⟩
      go_simp
      refine (qneg_any _ q _ (hA.val.keepI fk)).mono ?_
      rintro e w1 ⟨z1, z2, z3, z4, z5, z6, z7, z8, rfl, hr, hb⟩
      go_simp
      refine hK (upd U 48 (.agg #[.bool z1, .slice z2 z3 z4, .bool z5, .slice z6 z7 z8])) _ _ ?_ ?_
      · rw [HA.out]; kernel_rfl
      · exact ⟨(fb.step hb (Nat.le_refl _)), (fk.trans (KeepI.below hb)), (Nat.le_trans fs hb.size), (oA.stay hb), (oC.stay hb), (oAr.stay hb), (mv mo_is (KeepI.below hb) f0), (mv mo_is (KeepI.below hb) f1), (mv mo_is (KeepI.below hb) f2), (mv mo_is (KeepI.below hb) f3), (mv mo_is (KeepI.below hb) f4), (mv mo_is (KeepI.below hb) f5), (mv mo_is (KeepI.below hb) f6), (mv mo_is (KeepI.below hb) f7), (mv mo_is (KeepI.below hb) f8), (mv mo_is (KeepI.below hb) f9), (mv mo_is (KeepI.below hb) f10), (mv mo_is (KeepI.below hb) f11), (mv mo_is (KeepI.below hb) f12), (mv mo_is (KeepI.below hb) f13), (mv mo_is (KeepI.below hb) f14), (mv mo_is (KeepI.below hb) f15), (mv mo_is (KeepI.below hb) f16), (mv mo_rrt (KeepI.below hb) f17), (mv mo_is (KeepI.below hb) f18), (mv mo_is (KeepI.below hb) f19), (mv mo_is (KeepI.below hb) f20), (mv mo_is (KeepI.below hb) f21), (mv mo_is (KeepI.below hb) f22), (fun _ => hr.val), (mv mo_txq (KeepI.below hb) f24), (mv mo_is (KeepI.below hb) f25), (mv mo_rrt (KeepI.below hb) f26), (mv mo_txq (KeepI.below hb) f27), (mv mo_is (KeepI.below hb) f28), (mv mo_is (KeepI.below hb) f29), (mv mo_is (KeepI.below hb) f30)⟩
    refine StepsU.cond ?_ ?_
    · intro L U wr hF hlk haf A K hA hK
      have HA : Hid (A = putAll _ _ U) := hA
      clear hA
      simp [Aft, Region.binds] at haf
      obtain ⟨fb, fk, fs, oA, oC, oAr, f0, f1, f2, f3, f4, f5, f6, f7, f8, f9, f10, f11, f12, f13, f14, f15, f16, f17, f18, f19, f20, f21, f22, f23, f24, f25, f26, f27, f28, f29, f30⟩ := hF
      have gg := f21 (by simp [haf])
      have ee := rd HA.out 46 (by kernel_rfl) gg
      refine ⟨?_⟩
      rw [if_pos (by simp [Region.wanted, yielded, ee])]
      refine Gate.out ?_
      clear gg ee
      have g23 := f23 (by simp [haf])
      have e48 := rd HA.out 48 (by kernel_rfl) rfl
      refine ⟨?_⟩
      go_simp
      refine (qtext_any _ (-q) _ g23).mono ?_
      rintro e w1 ⟨S, rfl, hS, hb⟩
      go_simp
      refine hK (upd U 49 (.string S)) _ _ ?_ ?_
      · rw [HA.out]; kernel_rfl
      · exact ⟨(fb.step hb (Nat.le_refl _)), (fk.trans (KeepI.below hb)), (Nat.le_trans fs hb.size), (oA.stay hb), (oC.stay hb), (oAr.stay hb), (mv mo_is (KeepI.below hb) f0), (mv mo_is (KeepI.below hb) f1), (mv mo_is (KeepI.below hb) f2), (mv mo_is (KeepI.below hb) f3), (mv mo_is (KeepI.below hb) f4), (mv mo_is (KeepI.below hb) f5), (mv mo_is (KeepI.below hb) f6), (mv mo_is (KeepI.below hb) f7), (mv mo_is (KeepI.below hb) f8), (mv mo_is (KeepI.below hb) f9), (mv mo_is (KeepI.below hb) f10), (mv mo_is (KeepI.below hb) f11), (mv mo_is (KeepI.below hb) f12), (mv mo_is (KeepI.below hb) f13), (mv mo_is (KeepI.below hb) f14), (mv mo_is (KeepI.below hb) f15), (mv mo_is (KeepI.below hb) f16), (mv mo_rrt (KeepI.below hb) f17), (mv mo_is (KeepI.below hb) f18), (mv mo_is (KeepI.below hb) f19), (mv mo_is (KeepI.below hb) f20), (mv mo_is (KeepI.below hb) f21), (mv mo_is (KeepI.below hb) f22), (mv mo_rat (KeepI.below hb) f23), (fun _ => ⟨S, rfl, hS⟩), (mv mo_is (KeepI.below hb) f25), (mv mo_rrt (KeepI.below hb) f26), (mv mo_txq (KeepI.below hb) f27), (mv mo_is (KeepI.below hb) f28), (mv mo_is (KeepI.below hb) f29), (mv mo_is (KeepI.below hb) f30)⟩
    refine StepsU.cond ?_ ?_
    · intro L U wr hF hlk haf A K hA hK
      have HA : Hid (A = putAll _ _ U) := hA
      clear hA
      simp [Aft, Region.binds] at haf
      obtain ⟨fb, fk, fs, oA, oC, oAr, f0, f1, f2, f3, f4, f5, f6, f7, f8, f9, f10, f11, f12, f13, f14, f15, f16, f17, f18, f19, f20, f21, f22, f23, f24, f25, f26, f27, f28, f29, f30⟩ := hF
      have gg := f21 (by simp [haf])
      have ee := rd HA.out 46 (by kernel_rfl) gg
      refine ⟨?_⟩
      rw [if_pos (by simp [Region.wanted, yielded, ee])]
      refine Gate.out ?_
      clear gg ee
      have e6 : A.tmps[6]? = some (.pointer (some ⟨w2.heap.size + 1, 0, none⟩)) := by rw [HA.out]; kernel_rfl
      obtain ⟨c0, c1, c2, c3⟩ := oAr.four
      refine ⟨?_⟩
      go_simp
      refine hK (upd U 50 (.agg #[.bool xAr, .slice aAr nAr cAr, .bool yAr, .slice eAr mAr fAr])) _ _ ?_ ?_
      · rw [HA.out]; kernel_rfl
      · exact ⟨fb, fk, fs, oA, oC, oAr, f0, f1, f2, f3, f4, f5, f6, f7, f8, f9, f10, f11, f12, f13, f14, f15, f16, f17, f18, f19, f20, f21, f22, f23, f24, (fun _ => rfl), f26, f27, f28, f29, f30⟩
    refine StepsU.cond ?_ ?_
    · intro L U wr hF hlk haf A K hA hK
      have HA : Hid (A = putAll _ _ U) := hA
      clear hA
      simp [Aft, Region.binds] at haf
      obtain ⟨fb, fk, fs, oA, oC, oAr, f0, f1, f2, f3, f4, f5, f6, f7, f8, f9, f10, f11, f12, f13, f14, f15, f16, f17, f18, f19, f20, f21, f22, f23, f24, f25, f26, f27, f28, f29, f30⟩ := hF
      have gg := f21 (by simp [haf])
      have ee := rd HA.out 46 (by kernel_rfl) gg
      refine ⟨?_⟩
      rw [if_pos (by simp [Region.wanted, yielded, ee])]
      refine Gate.out ?_
      clear gg ee
      have g25 := f25 (by simp [haf])
      have e50 := rd HA.out 50 (by kernel_rfl) g25
      refine ⟨?_⟩
      go_simp
      refine (rqneg_any _ q 400 _ (hAr.val.keepI fk) (by decide)).mono ?_
      rintro e w1 ⟨z1, z2, z3, z4, z5, z6, z7, z8, rfl, hr, hb⟩
      go_simp
      refine hK (upd U 51 (.agg #[.bool z1, .slice z2 z3 z4, .bool z5, .slice z6 z7 z8])) _ _ ?_ ?_
      · rw [HA.out]; kernel_rfl
      · exact ⟨(fb.step hb (Nat.le_refl _)), (fk.trans (KeepI.below hb)), (Nat.le_trans fs hb.size), (oA.stay hb), (oC.stay hb), (oAr.stay hb), (mv mo_is (KeepI.below hb) f0), (mv mo_is (KeepI.below hb) f1), (mv mo_is (KeepI.below hb) f2), (mv mo_is (KeepI.below hb) f3), (mv mo_is (KeepI.below hb) f4), (mv mo_is (KeepI.below hb) f5), (mv mo_is (KeepI.below hb) f6), (mv mo_is (KeepI.below hb) f7), (mv mo_is (KeepI.below hb) f8), (mv mo_is (KeepI.below hb) f9), (mv mo_is (KeepI.below hb) f10), (mv mo_is (KeepI.below hb) f11), (mv mo_is (KeepI.below hb) f12), (mv mo_is (KeepI.below hb) f13), (mv mo_is (KeepI.below hb) f14), (mv mo_is (KeepI.below hb) f15), (mv mo_is (KeepI.below hb) f16), (mv mo_rrt (KeepI.below hb) f17), (mv mo_is (KeepI.below hb) f18), (mv mo_is (KeepI.below hb) f19), (mv mo_is (KeepI.below hb) f20), (mv mo_is (KeepI.below hb) f21), (mv mo_is (KeepI.below hb) f22), (mv mo_rat (KeepI.below hb) f23), (mv mo_txq (KeepI.below hb) f24), (mv mo_is (KeepI.below hb) f25), (fun _ => hr.val), (mv mo_txq (KeepI.below hb) f27), (mv mo_is (KeepI.below hb) f28), (mv mo_is (KeepI.below hb) f29), (mv mo_is (KeepI.below hb) f30)⟩
    refine StepsU.cond ?_ ?_
    · intro L U wr hF hlk haf A K hA hK
      have HA : Hid (A = putAll _ _ U) := hA
      clear hA
      simp [Aft, Region.binds] at haf
      obtain ⟨fb, fk, fs, oA, oC, oAr, f0, f1, f2, f3, f4, f5, f6, f7, f8, f9, f10, f11, f12, f13, f14, f15, f16, f17, f18, f19, f20, f21, f22, f23, f24, f25, f26, f27, f28, f29, f30⟩ := hF
      have gg := f21 (by simp [haf])
      have ee := rd HA.out 46 (by kernel_rfl) gg
      refine ⟨?_⟩
      rw [if_pos (by simp [Region.wanted, yielded, ee])]
      refine Gate.out ?_
      clear gg ee
      have g26 := f26 (by simp [haf])
      have e51 := rd HA.out 51 (by kernel_rfl) rfl
      refine ⟨?_⟩
      go_simp
      refine (rshow_any _ (-q) 400 _ g26 (by decide) (neg_lt HZ.out)).mono ?_
      rintro e w1 ⟨S, rfl, hS, hb⟩
      go_simp
      refine hK (upd U 52 (.string S)) _ _ ?_ ?_
      · rw [HA.out]; kernel_rfl
      · exact ⟨(fb.step hb (Nat.le_refl _)), (fk.trans (KeepI.below hb)), (Nat.le_trans fs hb.size), (oA.stay hb), (oC.stay hb), (oAr.stay hb), (mv mo_is (KeepI.below hb) f0), (mv mo_is (KeepI.below hb) f1), (mv mo_is (KeepI.below hb) f2), (mv mo_is (KeepI.below hb) f3), (mv mo_is (KeepI.below hb) f4), (mv mo_is (KeepI.below hb) f5), (mv mo_is (KeepI.below hb) f6), (mv mo_is (KeepI.below hb) f7), (mv mo_is (KeepI.below hb) f8), (mv mo_is (KeepI.below hb) f9), (mv mo_is (KeepI.below hb) f10), (mv mo_is (KeepI.below hb) f11), (mv mo_is (KeepI.below hb) f12), (mv mo_is (KeepI.below hb) f13), (mv mo_is (KeepI.below hb) f14), (mv mo_is (KeepI.below hb) f15), (mv mo_is (KeepI.below hb) f16), (mv mo_rrt (KeepI.below hb) f17), (mv mo_is (KeepI.below hb) f18), (mv mo_is (KeepI.below hb) f19), (mv mo_is (KeepI.below hb) f20), (mv mo_is (KeepI.below hb) f21), (mv mo_is (KeepI.below hb) f22), (mv mo_rat (KeepI.below hb) f23), (mv mo_txq (KeepI.below hb) f24), (mv mo_is (KeepI.below hb) f25), (mv mo_rrt (KeepI.below hb) f26), (fun _ => ⟨S, rfl, hS⟩), (mv mo_is (KeepI.below hb) f28), (mv mo_is (KeepI.below hb) f29), (mv mo_is (KeepI.below hb) f30)⟩
    refine StepsU.cond ?_ ?_
    · intro L U wr hF hlk haf A K hA hK
      have HA : Hid (A = putAll _ _ U) := hA
      clear hA
      simp [Aft, Region.binds] at haf
      obtain ⟨fb, fk, fs, oA, oC, oAr, f0, f1, f2, f3, f4, f5, f6, f7, f8, f9, f10, f11, f12, f13, f14, f15, f16, f17, f18, f19, f20, f21, f22, f23, f24, f25, f26, f27, f28, f29, f30⟩ := hF
      have gg := f21 (by simp [haf])
      have ee := rd HA.out 46 (by kernel_rfl) gg
      refine ⟨?_⟩
      rw [if_pos (by simp [Region.wanted, yielded, ee])]
      refine Gate.out ?_
      clear gg ee
      have g24 := f24 (by simp [haf])
      have g27 := f27 (by simp [haf])
      obtain ⟨S, hS, hT⟩ := g24
      obtain ⟨S2, hS2, hT2⟩ := g27
      have tt : (S.toList == S2.toList) = true := by rw [hT.same hT2]; simp
      have e49 := rd HA.out 49 (by kernel_rfl) hS
      have e52 := rd HA.out 52 (by kernel_rfl) hS2
      refine ⟨?_⟩
      go_simp
      refine hK (upd U 53 (.bool true)) _ _ ?_ ?_
      · rw [HA.out]; kernel_rfl
      · exact ⟨fb, fk, fs, oA, oC, oAr, f0, f1, f2, f3, f4, f5, f6, f7, f8, f9, f10, f11, f12, f13, f14, f15, f16, f17, f18, f19, f20, f21, f22, f23, f24, f25, f26, f27, (fun _ => rfl), f29, f30⟩
    refine StepsU.run rfl ?_ ?_
    · intro L U wr hF hlk haf A K hA hK
      have HA : Hid (A = putAll _ _ U) := hA
      clear hA
      simp [Aft, Region.binds] at haf
      obtain ⟨fb, fk, fs, oA, oC, oAr, f0, f1, f2, f3, f4, f5, f6, f7, f8, f9, f10, f11, f12, f13, f14, f15, f16, f17, f18, f19, f20, f21, f22, f23, f24, f25, f26, f27, f28, f29, f30⟩ := hF
      have g21 := f21 (by simp [haf])
      have g28 := f28 (by simp [haf])
      have e46 := rd HA.out 46 (by kernel_rfl) g21
      have e53 := rd HA.out 53 (by kernel_rfl) g28
      refine ⟨?_⟩
      go_simp
      refine hK (upd U 54 (.bool true)) _ _ ?_ ?_
      · rw [HA.out]; kernel_rfl
      · exact ⟨fb, fk, fs, oA, oC, oAr, f0, f1, f2, f3, f4, f5, f6, f7, f8, f9, f10, f11, f12, f13, f14, f15, f16, f17, f18, f19, f20, f21, f22, f23, f24, f25, f26, f27, f28, (fun _ => rfl), f30⟩
    refine StepsU.run rfl ?_ StepsU.nil
    · intro L U wr hF hlk haf A K hA hK
      have HA : Hid (A = putAll _ _ U) := hA
      clear hA
      simp [Aft, Region.binds] at haf
      obtain ⟨fb, fk, fs, oA, oC, oAr, f0, f1, f2, f3, f4, f5, f6, f7, f8, f9, f10, f11, f12, f13, f14, f15, f16, f17, f18, f19, f20, f21, f22, f23, f24, f25, f26, f27, f28, f29, f30⟩ := hF
      have g29 := f29 (by simp [haf])
      have e54 := rd HA.out 54 (by kernel_rfl) rfl
      refine ⟨?_⟩
      go_simp
      refine hK (upd U 4 (U 54)) _ _ ?_ ?_
      · rw [HA.out]; kernel_rfl
      · exact ⟨fb, fk, fs, oA, oC, oAr, f0, f1, f2, f3, f4, f5, f6, f7, f8, f9, f10, f11, f12, f13, f14, f15, f16, f17, f18, f19, f20, f21, f22, f23, f24, f25, f26, f27, f28, f29, (fun _ => g29)⟩
  intro L U5 V5 hall hF
  have hbw0 := hbw
  clear hbw
  obtain ⟨hbw, fk, fs, oA, oC, oAr, f0, f1, f2, f3, f4, f5, f6, f7, f8, f9, f10, f11, f12, f13, f14, f15, f16, f17, f18, f19, f20, f21, f22, f23, f24, f25, f26, f27, f28, f29, f30⟩ := hF
  have g0 := f0 (hall 0 (by decide))
  have g1 := f1 (hall 1 (by decide))
  have g2 := f2 (hall 2 (by decide))
  have g3 := f3 (hall 3 (by decide))
  have g4 := f4 (hall 4 (by decide))
  have g5 := f5 (hall 5 (by decide))
  have g6 := f6 (hall 6 (by decide))
  have g7 := f7 (hall 7 (by decide))
  have g8 := f8 (hall 8 (by decide))
  have g9 := f9 (hall 9 (by decide))
  have g10 := f10 (hall 10 (by decide))
  have g11 := f11 (hall 11 (by decide))
  have g12 := f12 (hall 12 (by decide))
  have g13 := f13 (hall 13 (by decide))
  have g14 := f14 (hall 14 (by decide))
  have g15 := f15 (hall 15 (by decide))
  have g16 := f16 (hall 16 (by decide))
  have g17 := f17 (hall 17 (by decide))
  have g18 := f18 (hall 18 (by decide))
  have g19 := f19 (hall 19 (by decide))
  have g20 := f20 (hall 20 (by decide))
  have g21 := f21 (hall 21 (by decide))
  have g22 := f22 (hall 22 (by decide))
  have g23 := f23 (hall 23 (by decide))
  have g24 := f24 (hall 24 (by decide))
  have g25 := f25 (hall 25 (by decide))
  have g26 := f26 (hall 26 (by decide))
  have g27 := f27 (hall 27 (by decide))
  have g28 := f28 (hall 28 (by decide))
  have g29 := f29 (hall 29 (by decide))
  have g30 := f30 (hall 30 (by decide))
  clear hall f0 f1 f2 f3 f4 f5 f6 f7 f8 f9 f10 f11 f12 f13 f14 f15 f16 f17 f18 f19 f20 f21 f22 f23 f24 f25 f26 f27 f28 f29 f30
  replace hA := hA.keepI fk
  replace hAr := hAr.keepI fk
  replace hC := hC.keepI fk
  replace hCr := hCr.keepI fk
  replace ltA := Nat.lt_of_lt_of_le ltA fs
  replace ltC := Nat.lt_of_lt_of_le ltC fs
  replace ltAr := Nat.lt_of_lt_of_le ltAr fs
  clear g0
  clear g1
  clear g2
  clear g3
  clear g4
  clear g5
  clear g6
  clear g7
  clear g8
  clear g9
  clear g10
  clear g11
  clear g12
  clear g13
  clear g14
  clear g15
  clear g16
  clear g17
  clear g18
  clear g19
  clear g20
  clear g21
  clear g22
  clear g23
  clear g24
  clear g25
  clear g26
  clear g27
  clear g28
  clear g29
  clear hbw0
  simp only [setM_some, setM_none, setM_nil]
  clear ltCr oCr
  clear fk fs
  have eT : U5 4 = _ := g30
  try simp only []
  try go_at_K
  repeat (first | go_values | go_skip | go_guarded | go_step | go_upon)
  refine bodyPost_ret (v := (.bool true)) (by simp [results, Try.results5, go_sem, eT]) rfl ?_
  exact ⟨rfl, hbw⟩
end Go.Proofs.Ytidpbdhhbeaijaa
