/- The walk of suretylaw02.RatioField: it answers true at every input. -/
import Derived.Test.YtidpbdhhbeaijabL0J
import Derived.Test.YtidpbdhhbeaijabQ7J
import Derived.Test.YtidpbdhhbeaijabQ8J
namespace Go.Proofs.Ytidpbdhhbeaijab
open Go.RowKit
theorem add_comm_c (q p : Rat) : addC p q = addC q p ∧ addZ p q = addZ q p := by
  by_cases h : aFits lim q p
  · have k := (aFits_comm lim q p).1 h
    rw [addC_yes h, addC_yes k, addZ_yes h, addZ_yes k, Rat.add_comm]
    exact ⟨rfl, rfl⟩
  · have k := fun x => h ((aFits_comm lim q p).2 x)
    rw [addC_no h, addC_no k, addZ_no h, addZ_no k]
    exact ⟨rfl, rfl⟩
theorem addC_z {x y : Rat} (h : addC x y = 0) : addZ x y = x + y := by
  unfold addC at h
  split at h
  · rename_i k; exact addZ_yes k
  · cases h
theorem mulC_z {x y : Rat} (h : mulC x y = 0) : mulZ x y = x * y := by
  unfold mulC at h
  split at h
  · rename_i k; exact mulZ_yes k
  · cases h
theorem back_add (q p : Rat) : (addC q p == 0) = false ∨ ((addC q p == 0) = true ∧ (addC (addZ q p) (-p) == 0) = false) ∨ ((addC q p == 0) = true ∧ (addC (addZ q p) (-p) == 0) = true ∧ cmpQ (addZ (addZ q p) (-p)) q = 0) := by
  by_cases h1 : addC q p = 0
  · right
    by_cases h2 : addC (addZ q p) (-p) = 0
    · right
      refine ⟨by rw [h1]; rfl, by rw [h2]; rfl, ?_⟩
      rw [cmpQ_eq, addC_z h2, addC_z h1, Rat.add_assoc, Rat.add_neg_cancel, Rat.add_zero]
    · left
      exact ⟨by rw [h1]; rfl, by rw [beq_eq_false_iff_ne]; exact h2⟩
  · left
    rw [beq_eq_false_iff_ne]; exact h1
theorem mul_zero_sign {q p : Rat} (h : p = 0) : (mulZ q p).num.sign = 0 := by
  have e : q * p = 0 := by rw [h, Rat.mul_zero]
  unfold mulZ
  split
  · rw [e]; rfl
  · rfl
theorem back_mul (q : Rat) {p : Rat} (hp : p ≠ 0) : (mulC q p != 0) = true ∨ ((mulC q p != 0) = false ∧ (quoC (mulZ q p) p != 0) = true) ∨ ((mulC q p != 0) = false ∧ (quoC (mulZ q p) p != 0) = false ∧ cmpQ (quoZ (mulZ q p) p) q = 0) := by
  by_cases h1 : mulC q p = 0
  · right
    by_cases h2 : quoC (mulZ q p) p = 0
    · right
      refine ⟨by rw [h1]; rfl, by rw [h2]; rfl, ?_⟩
      have h3 : mulC (mulZ q p) p⁻¹ = 0 := by rw [quoC, if_neg hp] at h2; exact h2
      rw [cmpQ_eq, quoZ, if_neg hp, mulC_z h3, mulC_z h1, Rat.mul_assoc, Rat.mul_inv_cancel p hp, Rat.mul_one]
    · left
      exact ⟨by rw [h1]; rfl, by rw [bne_iff_ne]; exact h2⟩
  · left
    rw [bne_iff_ne]; exact h1

set_option maxRecDepth 20000 in
set_option maxHeartbeats 16000000 in
theorem ratioField_any (s t : ByteArray) (w : World) (hs : s.size ≤ maxLen) (ht : t.size ≤ maxLen) :
    Calls Try.prog 3 #[.string s, .string t] w fun e w' => e = .returned (.bool true) ∧ Below w.heap.size w w' := by
  have hbw := Below.refl w.heap.size w
  go_enter Try.func3, Try.ntmps3
  go_wp2_with fail
  refine (awake2_any _).mono ?_
  rintro e w1 ⟨rfl, hb⟩
  replace hbw := hbw.step hb (Nat.le_refl _)
  clear hb
  go_wp2_with fail
  refine (rat_any s _ hs).mono ?_
  rintro e w2 ⟨q, xA, aA, nA, cA, yA, eA, mA, fA, xAr, aAr, nAr, cAr, yAr, eAr, mAr, fAr, rfl, hA, hAr, hb⟩
  replace hbw := hbw.step hb (Nat.le_refl _)
  clear hb
  have hn := below_new w2 (.cells #[.bool xA, .slice aA nA cA, .bool yA, .slice eA mA fA] 27 (0, 0))
  have oA := Blk.new w2 27 #[.bool xA, .slice aA nA cA, .bool yA, .slice eA mA fA]
  have lwA : w.heap.size ≤ w2.heap.size := hbw.size
  replace hA := hA.below hn
  replace hAr := hAr.below hn
  replace hbw := hbw.step hn (Nat.le_refl _)
  clear hn
  have ltA := oA.lt
  have hn := below_new (w2.alloc (.cells #[.bool xA, .slice aA nA cA, .bool yA, .slice eA mA fA] 27 (0, 0))) (.cells #[.bool xAr, .slice aAr nAr cAr, .bool yAr, .slice eAr mAr fAr] 32 (0, 0))
  have oAr := Blk.new (w2.alloc (.cells #[.bool xA, .slice aA nA cA, .bool yA, .slice eA mA fA] 27 (0, 0))) 32 #[.bool xAr, .slice aAr nAr cAr, .bool yAr, .slice eAr mAr fAr]
  simp only [World.size_alloc] at oAr
  have neAAr : w2.heap.size ≠ w2.heap.size + 1 := by have := ltA; simp at this; omega
  replace oA := oA.stay hn
  replace ltA := oA.lt
  replace hA := hA.below hn
  replace hAr := hAr.below hn
  replace hbw := hbw.step hn (Nat.le_refl _)
  clear hn
  have ltAr := oAr.lt
  clear ltAr oAr
  clear hAr
  go_wp2_with fail
  refine (rat_any t _ ht).mono ?_
  rintro e w3 ⟨p, xC, aC, nC, cC, yC, eC, mC, fC, xCr, aCr, nCr, cCr, yCr, eCr, mCr, fCr, rfl, hC, hCr, hb⟩
  replace oA := oA.stay hb
  replace ltA := oA.lt
  replace hA := hA.below hb
  replace hbw := hbw.step hb (Nat.le_refl _)
  clear hb
  have hn := below_new w3 (.cells #[.bool xC, .slice aC nC cC, .bool yC, .slice eC mC fC] 27 (0, 0))
  have oC := Blk.new w3 27 #[.bool xC, .slice aC nC cC, .bool yC, .slice eC mC fC]
  have neAC : w2.heap.size ≠ w3.heap.size := Nat.ne_of_lt ltA
  have lwC : w.heap.size ≤ w3.heap.size := hbw.size
  replace oA := oA.stay hn
  replace ltA := oA.lt
  replace hA := hA.below hn
  replace hC := hC.below hn
  replace hCr := hCr.below hn
  replace hbw := hbw.step hn (Nat.le_refl _)
  clear hn
  have ltC := oC.lt
  have hn := below_new (w3.alloc (.cells #[.bool xC, .slice aC nC cC, .bool yC, .slice eC mC fC] 27 (0, 0))) (.cells #[.bool xCr, .slice aCr nCr cCr, .bool yCr, .slice eCr mCr fCr] 32 (0, 0))
  have oCr := Blk.new (w3.alloc (.cells #[.bool xC, .slice aC nC cC, .bool yC, .slice eC mC fC] 27 (0, 0))) 32 #[.bool xCr, .slice aCr nCr cCr, .bool yCr, .slice eCr mCr fCr]
  simp only [World.size_alloc] at oCr
  have neACr : w2.heap.size ≠ w3.heap.size + 1 := by have := ltA; simp at this; omega
  have neCCr : w3.heap.size ≠ w3.heap.size + 1 := by have := ltC; simp at this; omega
  replace oA := oA.stay hn
  replace ltA := oA.lt
  replace oC := oC.stay hn
  replace ltC := oC.lt
  replace hA := hA.below hn
  replace hC := hC.below hn
  replace hCr := hCr.below hn
  replace hbw := hbw.step hn (Nat.le_refl _)
  clear hn
  have ltCr := oCr.lt
  clear ltCr oCr
  clear hCr
  have HC : Hid (addC p q = addC q p ∧ addZ p q = addZ q p) := add_comm_c q p
  obtain ⟨Ac0, Ac1, Ac2, Ac3⟩ := oA.four
  obtain ⟨Aq0, Aq1, Aq2, Aq3⟩ := oA.frozen4
  obtain ⟨Cc0, Cc1, Cc2, Cc3⟩ := oC.four
  obtain ⟨Cq0, Cq1, Cq2, Cq3⟩ := oC.frozen4
  go_wp2_with fail
  refine (qadd_any _ _ q p _ hA.val hC.val).mono ?_
  rintro e w4 ⟨i1, i2, i3, i4, i5, i6, i7, i8, rfl, hI, hb⟩
  clear Ac0 Ac1 Ac2 Ac3 Aq0 Aq1 Aq2 Aq3
  clear Cc0 Cc1 Cc2 Cc3 Cq0 Cq1 Cq2 Cq3
  replace oA := oA.stay hb
  replace ltA := oA.lt
  replace oC := oC.stay hb
  replace ltC := oC.lt
  replace hA := hA.below hb
  replace hC := hC.below hb
  replace hbw := hbw.step hb (Nat.le_refl _)
  clear hb
  have hn := below_new w4 (.cells #[.bool i1, .slice i2 i3 i4, .bool i5, .slice i6 i7 i8] 27 (0, 0))
  have oI := Blk.new w4 27 #[.bool i1, .slice i2 i3 i4, .bool i5, .slice i6 i7 i8]
  have neAI : w2.heap.size ≠ w4.heap.size := Nat.ne_of_lt ltA
  have neCI : w3.heap.size ≠ w4.heap.size := Nat.ne_of_lt ltC
  have lwI : w.heap.size ≤ w4.heap.size := hbw.size
  replace oA := oA.stay hn
  replace ltA := oA.lt
  replace oC := oC.stay hn
  replace ltC := oC.lt
  replace hA := hA.below hn
  replace hC := hC.below hn
  replace hI := hI.below hn
  replace hbw := hbw.step hn (Nat.le_refl _)
  clear hn
  have ltI := oI.lt
  obtain ⟨Cc0, Cc1, Cc2, Cc3⟩ := oC.four
  obtain ⟨Cq0, Cq1, Cq2, Cq3⟩ := oC.frozen4
  obtain ⟨Ac0, Ac1, Ac2, Ac3⟩ := oA.four
  obtain ⟨Aq0, Aq1, Aq2, Aq3⟩ := oA.frozen4
  go_wp2_with fail
  refine (qadd_any _ _ p q _ hC.val hA.val).mono ?_
  rintro e w5 ⟨j1, j2, j3, j4, j5, j6, j7, j8, rfl, hJ, hb⟩
  clear Cc0 Cc1 Cc2 Cc3 Cq0 Cq1 Cq2 Cq3
  clear Ac0 Ac1 Ac2 Ac3 Aq0 Aq1 Aq2 Aq3
  replace oA := oA.stay hb
  replace ltA := oA.lt
  replace oC := oC.stay hb
  replace ltC := oC.lt
  replace oI := oI.stay hb
  replace ltI := oI.lt
  replace hA := hA.below hb
  replace hC := hC.below hb
  replace hI := hI.below hb
  replace hbw := hbw.step hb (Nat.le_refl _)
  clear hb
  rw [HC.out.1]
  rw [HC.out.2] at hJ
  have hn := below_new w5 (.cells #[.bool j1, .slice j2 j3 j4, .bool j5, .slice j6 j7 j8] 27 (0, 0))
  have oJ := Blk.new w5 27 #[.bool j1, .slice j2 j3 j4, .bool j5, .slice j6 j7 j8]
  have neAJ : w2.heap.size ≠ w5.heap.size := Nat.ne_of_lt ltA
  have neCJ : w3.heap.size ≠ w5.heap.size := Nat.ne_of_lt ltC
  have neIJ : w4.heap.size ≠ w5.heap.size := Nat.ne_of_lt ltI
  have lwJ : w.heap.size ≤ w5.heap.size := hbw.size
  replace oA := oA.stay hn
  replace ltA := oA.lt
  replace oC := oC.stay hn
  replace ltC := oC.lt
  replace oI := oI.stay hn
  replace ltI := oI.lt
  replace hA := hA.below hn
  replace hC := hC.below hn
  replace hI := hI.below hn
  replace hJ := hJ.below hn
  replace hbw := hbw.step hn (Nat.le_refl _)
  clear hn
  have ltJ := oJ.lt
  have ee : (addC q p != addC q p) = false := by simp
  go_wp2
  generalize (w5.alloc (.cells #[.bool j1, .slice j2 j3 j4, .bool j5, .slice j6 j7 j8] 27 (0, 0))) = W5 at hbw oA oC oI oJ ltA ltC ltI ltJ hA hC hI hJ ⊢
  refine wp_region_M (by kernel_rfl) [44, 45, 46, 47, 48, 49, 50, 51, 52, 53] [none, none, none, none, none, none, none, none, none, none, none, none, none, none, none, none, none, none, none, none, none, none, none, none, none, none, none, none, none, none, none, none, none, none, none, none, none, none, none, none, none, none, none, none, some 44, some 45, some 46, some 47, some 48, some 49, some 50, some 51, some 52, some 53] (fun U => by kernel_rfl) (fun L U wr => Below w.heap.size w wr ∧ KeepI W5 wr ∧ W5.heap.size ≤ wr.heap.size ∧ Blk 27 wr (w2.heap.size) #[.bool xA, .slice aA nA cA, .bool yA, .slice eA mA fA] ∧ Blk 27 wr (w3.heap.size) #[.bool xC, .slice aC nC cC, .bool yC, .slice eC mC fC] ∧ Blk 27 wr (w4.heap.size) #[.bool i1, .slice i2 i3 i4, .bool i5, .slice i6 i7 i8] ∧ Blk 27 wr (w5.heap.size) #[.bool j1, .slice j2 j3 j4, .bool j5, .slice j6 j7 j8] ∧ (L 0 = true → IS (.int .i64 (addC q p)) (U 44) wr) ∧ (L 1 = true → IS (.int .i64 (addC q p)) (U 45) wr) ∧ (L 2 = true → IS (.bool false) (U 46) wr) ∧ (L 3 = true → IS (.bool false) (U 47) wr) ∧ (L 4 = true → IS (.agg #[.bool i1, .slice i2 i3 i4, .bool i5, .slice i6 i7 i8]) (U 48) wr) ∧ (L 5 = true → TXQ (addZ q p) (U 49) wr) ∧ (L 6 = true → IS (.agg #[.bool j1, .slice j2 j3 j4, .bool j5, .slice j6 j7 j8]) (U 50) wr) ∧ (L 7 = true → TXQ (addZ q p) (U 51) wr) ∧ (L 8 = true → IS (.bool false) (U 52) wr) ∧ (L 9 = true → IS (.bool false) (U 53) wr)) (by kernel_rfl) ?_ ?_ ?_
  · exact fun U => ⟨hbw.drew, KeepI.below (Below.refl _ _).drew, Nat.le_refl _, oA.drew, oC.drew, oI.drew, oJ.drew, (fun h => by cases h), (fun h => by cases h), (fun h => by cases h), (fun h => by cases h), (fun h => by cases h), (fun h => by cases h), (fun h => by cases h), (fun h => by cases h), (fun h => by cases h), (fun h => by cases h)⟩
  · refine StepsU.run rfl ?_ ?_
    · intro L U wr hF hlk haf A K hA hK
      have HA : Hid (A = putAll _ _ U) := hA
      clear hA
      simp [Aft, Region.binds] at haf
      obtain ⟨fb, fk, fs, oA, oC, oI, oJ, f0, f1, f2, f3, f4, f5, f6, f7, f8, f9⟩ := hF
      have e10 : A.tmps[10]? = some (.int .i64 (addC q p)) := by rw [HA.out]; kernel_rfl
      refine ⟨?_⟩
      go_simp
      refine hK (upd U 44 (.int .i64 (addC q p))) _ _ ?_ ?_
      · rw [HA.out]; kernel_rfl
      · exact ⟨fb, fk, fs, oA, oC, oI, oJ, (fun _ => rfl), f1, f2, f3, f4, f5, f6, f7, f8, f9⟩
    refine StepsU.run rfl ?_ ?_
    · intro L U wr hF hlk haf A K hA hK
      have HA : Hid (A = putAll _ _ U) := hA
      clear hA
      simp [Aft, Region.binds] at haf
      obtain ⟨fb, fk, fs, oA, oC, oI, oJ, f0, f1, f2, f3, f4, f5, f6, f7, f8, f9⟩ := hF
      have e12 : A.tmps[12]? = some (.int .i64 (addC q p)) := by rw [HA.out]; kernel_rfl
      refine ⟨?_⟩
      go_simp
      refine hK (upd U 45 (.int .i64 (addC q p))) _ _ ?_ ?_
      · rw [HA.out]; kernel_rfl
      · exact ⟨fb, fk, fs, oA, oC, oI, oJ, f0, (fun _ => rfl), f2, f3, f4, f5, f6, f7, f8, f9⟩
    refine StepsU.run rfl ?_ ?_
    · intro L U wr hF hlk haf A K hA hK
      have HA : Hid (A = putAll _ _ U) := hA
      clear hA
      simp [Aft, Region.binds] at haf
      obtain ⟨fb, fk, fs, oA, oC, oI, oJ, f0, f1, f2, f3, f4, f5, f6, f7, f8, f9⟩ := hF
      have g0 := f0 (by simp [haf])
      have g1 := f1 (by simp [haf])
      have ee : (addC q p != addC q p) = false := by simp
      have e44 := rd HA.out 44 (by kernel_rfl) g0
      have e45 := rd HA.out 45 (by kernel_rfl) g1
      refine ⟨?_⟩
      go_simp
      refine hK (upd U 46 (.bool false)) _ _ ?_ ?_
      · rw [HA.out]; kernel_rfl
      · exact ⟨fb, fk, fs, oA, oC, oI, oJ, f0, f1, (fun _ => rfl), f3, f4, f5, f6, f7, f8, f9⟩
    refine StepsU.run rfl ?_ ?_
    · intro L U wr hF hlk haf A K hA hK
      have HA : Hid (A = putAll _ _ U) := hA
      clear hA
      simp [Aft, Region.binds] at haf
      obtain ⟨fb, fk, fs, oA, oC, oI, oJ, f0, f1, f2, f3, f4, f5, f6, f7, f8, f9⟩ := hF
      have g2 := f2 (by simp [haf])
      have e46 := rd HA.out 46 (by kernel_rfl) rfl
      refine ⟨?_⟩
      go_simp
      refine hK (upd U 47 (U 46)) _ _ ?_ ?_
      · rw [HA.out]; kernel_rfl
      · exact ⟨fb, fk, fs, oA, oC, oI, oJ, f0, f1, f2, (fun _ => g2), f4, f5, f6, f7, f8, f9⟩
    refine StepsU.cond ?_ ?_
    · intro L U wr hF hlk haf A K hA hK
      have HA : Hid (A = putAll _ _ U) := hA
      clear hA
      simp [Aft, Region.binds] at haf
      obtain ⟨fb, fk, fs, oA, oC, oI, oJ, f0, f1, f2, f3, f4, f5, f6, f7, f8, f9⟩ := hF
      have gg := f3 (by simp [haf])
      have ee := rd HA.out 47 (by kernel_rfl) gg
      refine ⟨?_⟩
      rw [if_pos (by simp [Region.wanted, yielded, ee])]
      refine Gate.out ?_
      clear gg ee
      have e9 : A.tmps[9]? = some (.pointer (some ⟨w4.heap.size, 0, none⟩)) := by rw [HA.out]; kernel_rfl
      obtain ⟨c0, c1, c2, c3⟩ := oI.four
      refine ⟨?_⟩
      go_simp
      refine hK (upd U 48 (.agg #[.bool i1, .slice i2 i3 i4, .bool i5, .slice i6 i7 i8])) _ _ ?_ ?_
      · rw [HA.out]; kernel_rfl
      · exact ⟨fb, fk, fs, oA, oC, oI, oJ, f0, f1, f2, f3, (fun _ => rfl), f5, f6, f7, f8, f9⟩
    refine StepsU.cond ?_ ?_
    · intro L U wr hF hlk haf A K hA hK
      have HA : Hid (A = putAll _ _ U) := hA
      clear hA
      simp [Aft, Region.binds] at haf
      obtain ⟨fb, fk, fs, oA, oC, oI, oJ, f0, f1, f2, f3, f4, f5, f6, f7, f8, f9⟩ := hF
      have gg := f3 (by simp [haf])
      have ee := rd HA.out 47 (by kernel_rfl) gg
      refine ⟨?_⟩
      rw [if_pos (by simp [Region.wanted, yielded, ee])]
      refine Gate.out ?_
      clear gg ee
      have g4 := f4 (by simp [haf])
      have e48 := rd HA.out 48 (by kernel_rfl) g4
      refine ⟨?_⟩
      go_simp
      refine (qtext_any _ (addZ q p) _ (hI.val.keepI fk)).mono ?_
      rintro e w1 ⟨S, rfl, hS, hb⟩
      go_simp
      refine hK (upd U 49 (.string S)) _ _ ?_ ?_
      · rw [HA.out]; kernel_rfl
      · exact ⟨(fb.step hb (Nat.le_refl _)), (fk.trans (KeepI.below hb)), (Nat.le_trans fs hb.size), (oA.stay hb), (oC.stay hb), (oI.stay hb), (oJ.stay hb), (mv mo_is (KeepI.below hb) f0), (mv mo_is (KeepI.below hb) f1), (mv mo_is (KeepI.below hb) f2), (mv mo_is (KeepI.below hb) f3), (mv mo_is (KeepI.below hb) f4), (fun _ => ⟨S, rfl, hS⟩), (mv mo_is (KeepI.below hb) f6), (mv mo_txq (KeepI.below hb) f7), (mv mo_is (KeepI.below hb) f8), (mv mo_is (KeepI.below hb) f9)⟩
    refine StepsU.cond ?_ ?_
    · intro L U wr hF hlk haf A K hA hK
      have HA : Hid (A = putAll _ _ U) := hA
      clear hA
      simp [Aft, Region.binds] at haf
      obtain ⟨fb, fk, fs, oA, oC, oI, oJ, f0, f1, f2, f3, f4, f5, f6, f7, f8, f9⟩ := hF
      have gg := f3 (by simp [haf])
      have ee := rd HA.out 47 (by kernel_rfl) gg
      refine ⟨?_⟩
      rw [if_pos (by simp [Region.wanted, yielded, ee])]
      refine Gate.out ?_
      clear gg ee
      have e11 : A.tmps[11]? = some (.pointer (some ⟨w5.heap.size, 0, none⟩)) := by rw [HA.out]; kernel_rfl
      obtain ⟨c0, c1, c2, c3⟩ := oJ.four
      refine ⟨?_⟩
      go_simp
      refine hK (upd U 50 (.agg #[.bool j1, .slice j2 j3 j4, .bool j5, .slice j6 j7 j8])) _ _ ?_ ?_
      · rw [HA.out]; kernel_rfl
      · exact ⟨fb, fk, fs, oA, oC, oI, oJ, f0, f1, f2, f3, f4, f5, (fun _ => rfl), f7, f8, f9⟩
    refine StepsU.cond ?_ ?_
    · intro L U wr hF hlk haf A K hA hK
      have HA : Hid (A = putAll _ _ U) := hA
      clear hA
      simp [Aft, Region.binds] at haf
      obtain ⟨fb, fk, fs, oA, oC, oI, oJ, f0, f1, f2, f3, f4, f5, f6, f7, f8, f9⟩ := hF
      have gg := f3 (by simp [haf])
      have ee := rd HA.out 47 (by kernel_rfl) gg
      refine ⟨?_⟩
      rw [if_pos (by simp [Region.wanted, yielded, ee])]
      refine Gate.out ?_
      clear gg ee
      have g6 := f6 (by simp [haf])
      have e50 := rd HA.out 50 (by kernel_rfl) g6
      refine ⟨?_⟩
      go_simp
      refine (qtext_any _ (addZ q p) _ (hJ.val.keepI fk)).mono ?_
      rintro e w1 ⟨S, rfl, hS, hb⟩
      go_simp
      refine hK (upd U 51 (.string S)) _ _ ?_ ?_
      · rw [HA.out]; kernel_rfl
      · exact ⟨(fb.step hb (Nat.le_refl _)), (fk.trans (KeepI.below hb)), (Nat.le_trans fs hb.size), (oA.stay hb), (oC.stay hb), (oI.stay hb), (oJ.stay hb), (mv mo_is (KeepI.below hb) f0), (mv mo_is (KeepI.below hb) f1), (mv mo_is (KeepI.below hb) f2), (mv mo_is (KeepI.below hb) f3), (mv mo_is (KeepI.below hb) f4), (mv mo_txq (KeepI.below hb) f5), (mv mo_is (KeepI.below hb) f6), (fun _ => ⟨S, rfl, hS⟩), (mv mo_is (KeepI.below hb) f8), (mv mo_is (KeepI.below hb) f9)⟩
    refine StepsU.cond ?_ ?_
    · intro L U wr hF hlk haf A K hA hK
      have HA : Hid (A = putAll _ _ U) := hA
      clear hA
      simp [Aft, Region.binds] at haf
      obtain ⟨fb, fk, fs, oA, oC, oI, oJ, f0, f1, f2, f3, f4, f5, f6, f7, f8, f9⟩ := hF
      have gg := f3 (by simp [haf])
      have ee := rd HA.out 47 (by kernel_rfl) gg
      refine ⟨?_⟩
      rw [if_pos (by simp [Region.wanted, yielded, ee])]
      refine Gate.out ?_
      clear gg ee
      have g5 := f5 (by simp [haf])
      have g7 := f7 (by simp [haf])
      obtain ⟨S, hS, hT⟩ := g5
      obtain ⟨S2, hS2, hT2⟩ := g7
      have tt : (S.toList == S2.toList) = true := by rw [hT.same hT2]; simp
      have tt2 : (S.toList != S2.toList) = false := by simp [bne, tt]
      have e49 := rd HA.out 49 (by kernel_rfl) hS
      have e51 := rd HA.out 51 (by kernel_rfl) hS2
      refine ⟨?_⟩
      go_simp
      refine hK (upd U 52 (.bool false)) _ _ ?_ ?_
      · rw [HA.out]; kernel_rfl
      · exact ⟨fb, fk, fs, oA, oC, oI, oJ, f0, f1, f2, f3, f4, f5, f6, f7, (fun _ => rfl), f9⟩
    refine StepsU.run rfl ?_ StepsU.nil
    · intro L U wr hF hlk haf A K hA hK
      have HA : Hid (A = putAll _ _ U) := hA
      clear hA
      simp [Aft, Region.binds] at haf
      obtain ⟨fb, fk, fs, oA, oC, oI, oJ, f0, f1, f2, f3, f4, f5, f6, f7, f8, f9⟩ := hF
      have g3 := f3 (by simp [haf])
      have g8 := f8 (by simp [haf])
      have e47 := rd HA.out 47 (by kernel_rfl) g3
      have e52 := rd HA.out 52 (by kernel_rfl) g8
      refine ⟨?_⟩
      go_simp
      refine hK (upd U 53 (.bool false)) _ _ ?_ ?_
      · rw [HA.out]; kernel_rfl
      · exact ⟨fb, fk, fs, oA, oC, oI, oJ, f0, f1, f2, f3, f4, f5, f6, f7, f8, (fun _ => rfl)⟩
  intro L U6 V6 hall hF
  have hbw0 := hbw
  clear hbw
  obtain ⟨hbw, fk, fs, oA, oC, oI, oJ, f0, f1, f2, f3, f4, f5, f6, f7, f8, f9⟩ := hF
  have g0 := f0 (hall 0 (by decide))
  have g1 := f1 (hall 1 (by decide))
  have g2 := f2 (hall 2 (by decide))
  have g3 := f3 (hall 3 (by decide))
  have g4 := f4 (hall 4 (by decide))
  have g5 := f5 (hall 5 (by decide))
  have g6 := f6 (hall 6 (by decide))
  have g7 := f7 (hall 7 (by decide))
  have g8 := f8 (hall 8 (by decide))
  have g9 := f9 (hall 9 (by decide))
  clear hall f0 f1 f2 f3 f4 f5 f6 f7 f8 f9
  replace hA := hA.keepI fk
  replace hC := hC.keepI fk
  replace hI := hI.keepI fk
  replace hJ := hJ.keepI fk
  replace ltA := Nat.lt_of_lt_of_le ltA fs
  replace ltC := Nat.lt_of_lt_of_le ltC fs
  replace ltI := Nat.lt_of_lt_of_le ltI fs
  replace ltJ := Nat.lt_of_lt_of_le ltJ fs
  clear g0
  clear g1
  clear g2
  clear g3
  clear g4
  clear g5
  clear g6
  clear g7
  clear g8
  clear hbw0
  simp only [setM_some, setM_none, setM_nil]
  clear fk fs
  have eC : U6 53 = _ := g9
  clear g9
  rw [eC]
  clear eC
  obtain ⟨Ic0, Ic1, Ic2, Ic3⟩ := oI.four
  obtain ⟨Iq0, Iq1, Iq2, Iq3⟩ := oI.frozen4
  obtain ⟨Cc0, Cc1, Cc2, Cc3⟩ := oC.four
  obtain ⟨Cq0, Cq1, Cq2, Cq3⟩ := oC.frozen4
  go_wp2_with fail
  refine (qsub_any _ _ (addZ q p) p _ hI.val hC.val).mono ?_
  rintro e w7 ⟨k1, k2, k3, k4, k5, k6, k7, k8, rfl, hK, hb⟩
  clear Ic0 Ic1 Ic2 Ic3 Iq0 Iq1 Iq2 Iq3
  clear Cc0 Cc1 Cc2 Cc3 Cq0 Cq1 Cq2 Cq3
  replace oA := oA.stay hb
  replace ltA := oA.lt
  replace oC := oC.stay hb
  replace ltC := oC.lt
  replace oI := oI.stay hb
  replace ltI := oI.lt
  replace oJ := oJ.stay hb
  replace ltJ := oJ.lt
  replace hA := hA.below hb
  replace hC := hC.below hb
  replace hI := hI.below hb
  replace hJ := hJ.below hb
  replace hbw := hbw.step hb (Nat.le_refl _)
  clear hb
  have hn := below_new w7 (.cells #[.bool k1, .slice k2 k3 k4, .bool k5, .slice k6 k7 k8] 27 (0, 0))
  have oW := Blk.new w7 27 #[.bool k1, .slice k2 k3 k4, .bool k5, .slice k6 k7 k8]
  have neAW : w2.heap.size ≠ w7.heap.size := Nat.ne_of_lt ltA
  have neCW : w3.heap.size ≠ w7.heap.size := Nat.ne_of_lt ltC
  have neIW : w4.heap.size ≠ w7.heap.size := Nat.ne_of_lt ltI
  have neJW : w5.heap.size ≠ w7.heap.size := Nat.ne_of_lt ltJ
  have lwW : w.heap.size ≤ w7.heap.size := hbw.size
  replace oA := oA.stay hn
  replace ltA := oA.lt
  replace oC := oC.stay hn
  replace ltC := oC.lt
  replace oI := oI.stay hn
  replace ltI := oI.lt
  replace oJ := oJ.stay hn
  replace ltJ := oJ.lt
  replace hA := hA.below hn
  replace hC := hC.below hn
  replace hI := hI.below hn
  replace hJ := hJ.below hn
  replace hK := hK.below hn
  replace hbw := hbw.step hn (Nat.le_refl _)
  clear hn
  have ltW := oW.lt
  have HB : Hid ((addC q p == 0) = false ∨ ((addC q p == 0) = true ∧ (addC (addZ q p) (-p) == 0) = false) ∨ ((addC q p == 0) = true ∧ (addC (addZ q p) (-p) == 0) = true ∧ cmpQ (addZ (addZ q p) (-p)) q = 0)) := back_add q p
  rcases HB.out with b1 | ⟨b1, b2⟩ | ⟨b1, b2, b3⟩
  · obtain ⟨Ac0, Ac1, Ac2, Ac3⟩ := oA.four
    obtain ⟨Aq0, Aq1, Aq2, Aq3⟩ := oA.frozen4
    obtain ⟨Cc0, Cc1, Cc2, Cc3⟩ := oC.four
    obtain ⟨Cq0, Cq1, Cq2, Cq3⟩ := oC.frozen4
    go_wp2_with fail
    refine (qmul_any _ _ q p _ hA.val hC.val).mono ?_
    rintro e w8 ⟨l1, l2, l3, l4, l5, l6, l7, l8, rfl, hL, hb⟩
    clear Ac0 Ac1 Ac2 Ac3 Aq0 Aq1 Aq2 Aq3
    clear Cc0 Cc1 Cc2 Cc3 Cq0 Cq1 Cq2 Cq3
    replace oA := oA.stay hb
    replace ltA := oA.lt
    replace oC := oC.stay hb
    replace ltC := oC.lt
    replace oI := oI.stay hb
    replace ltI := oI.lt
    replace oJ := oJ.stay hb
    replace ltJ := oJ.lt
    replace oW := oW.stay hb
    replace ltW := oW.lt
    replace hA := hA.below hb
    replace hC := hC.below hb
    replace hI := hI.below hb
    replace hJ := hJ.below hb
    replace hK := hK.below hb
    replace hbw := hbw.step hb (Nat.le_refl _)
    clear hb
    have hn := below_new w8 (.cells #[.bool l1, .slice l2 l3 l4, .bool l5, .slice l6 l7 l8] 27 (0, 0))
    have oL := Blk.new w8 27 #[.bool l1, .slice l2 l3 l4, .bool l5, .slice l6 l7 l8]
    have neAL : w2.heap.size ≠ w8.heap.size := Nat.ne_of_lt ltA
    have neCL : w3.heap.size ≠ w8.heap.size := Nat.ne_of_lt ltC
    have neIL : w4.heap.size ≠ w8.heap.size := Nat.ne_of_lt ltI
    have neJL : w5.heap.size ≠ w8.heap.size := Nat.ne_of_lt ltJ
    have neWL : w7.heap.size ≠ w8.heap.size := Nat.ne_of_lt ltW
    have lwL : w.heap.size ≤ w8.heap.size := hbw.size
    replace oA := oA.stay hn
    replace ltA := oA.lt
    replace oC := oC.stay hn
    replace ltC := oC.lt
    replace oI := oI.stay hn
    replace ltI := oI.lt
    replace oJ := oJ.stay hn
    replace ltJ := oJ.lt
    replace oW := oW.stay hn
    replace ltW := oW.lt
    replace hA := hA.below hn
    replace hC := hC.below hn
    replace hI := hI.below hn
    replace hJ := hJ.below hn
    replace hK := hK.below hn
    replace hL := hL.below hn
    replace hbw := hbw.step hn (Nat.le_refl _)
    clear hn
    have ltL := oL.lt
    by_cases hp0 : p = 0
    · have HS : Hid (p.num.sign = 0) := by show _ = _; rw [num_zero.2 hp0]; rfl
      have E1 : quoC q p = 12 := if_pos hp0
      have HZ : Hid ((mulZ q p).num.sign = 0) := mul_zero_sign hp0
      clear hp0
      obtain ⟨Cc0, Cc1, Cc2, Cc3⟩ := oC.four
      obtain ⟨Cq0, Cq1, Cq2, Cq3⟩ := oC.frozen4
      go_wp2_with fail
      refine (qsign_any _ p 0 _ hC.val HS.out).mono ?_
      rintro e w9 ⟨rfl, hb⟩
      clear Cc0 Cc1 Cc2 Cc3 Cq0 Cq1 Cq2 Cq3
      replace oA := oA.stay hb
      replace ltA := oA.lt
      replace oC := oC.stay hb
      replace ltC := oC.lt
      replace oI := oI.stay hb
      replace ltI := oI.lt
      replace oJ := oJ.stay hb
      replace ltJ := oJ.lt
      replace oW := oW.stay hb
      replace ltW := oW.lt
      replace oL := oL.stay hb
      replace ltL := oL.lt
      replace hA := hA.below hb
      replace hC := hC.below hb
      replace hI := hI.below hb
      replace hJ := hJ.below hb
      replace hK := hK.below hb
      replace hL := hL.below hb
      replace hbw := hbw.step hb (Nat.le_refl _)
      clear hb
      obtain ⟨Ac0, Ac1, Ac2, Ac3⟩ := oA.four
      obtain ⟨Aq0, Aq1, Aq2, Aq3⟩ := oA.frozen4
      obtain ⟨Cc0, Cc1, Cc2, Cc3⟩ := oC.four
      obtain ⟨Cq0, Cq1, Cq2, Cq3⟩ := oC.frozen4
      go_wp2_with fail
      refine (quo_any _ _ q p _ hA.val hC.val).mono ?_
      rintro e w10 ⟨o1, o2, o3, o4, o5, o6, o7, o8, rfl, hO, hb⟩
      clear Ac0 Ac1 Ac2 Ac3 Aq0 Aq1 Aq2 Aq3
      clear Cc0 Cc1 Cc2 Cc3 Cq0 Cq1 Cq2 Cq3
      replace oA := oA.stay hb
      replace ltA := oA.lt
      replace oC := oC.stay hb
      replace ltC := oC.lt
      replace oI := oI.stay hb
      replace ltI := oI.lt
      replace oJ := oJ.stay hb
      replace ltJ := oJ.lt
      replace oW := oW.stay hb
      replace ltW := oW.lt
      replace oL := oL.stay hb
      replace ltL := oL.lt
      replace hA := hA.below hb
      replace hC := hC.below hb
      replace hI := hI.below hb
      replace hJ := hJ.below hb
      replace hK := hK.below hb
      replace hL := hL.below hb
      replace hbw := hbw.step hb (Nat.le_refl _)
      clear hb
      have hn := below_new w10 (.cells #[.bool o1, .slice o2 o3 o4, .bool o5, .slice o6 o7 o8] 27 (0, 0))
      have oO := Blk.new w10 27 #[.bool o1, .slice o2 o3 o4, .bool o5, .slice o6 o7 o8]
      have neAO : w2.heap.size ≠ w10.heap.size := Nat.ne_of_lt ltA
      have neCO : w3.heap.size ≠ w10.heap.size := Nat.ne_of_lt ltC
      have neIO : w4.heap.size ≠ w10.heap.size := Nat.ne_of_lt ltI
      have neJO : w5.heap.size ≠ w10.heap.size := Nat.ne_of_lt ltJ
      have neWO : w7.heap.size ≠ w10.heap.size := Nat.ne_of_lt ltW
      have neLO : w8.heap.size ≠ w10.heap.size := Nat.ne_of_lt ltL
      have lwO : w.heap.size ≤ w10.heap.size := hbw.size
      replace oA := oA.stay hn
      replace ltA := oA.lt
      replace oC := oC.stay hn
      replace ltC := oC.lt
      replace oI := oI.stay hn
      replace ltI := oI.lt
      replace oJ := oJ.stay hn
      replace ltJ := oJ.lt
      replace oW := oW.stay hn
      replace ltW := oW.lt
      replace oL := oL.stay hn
      replace ltL := oL.lt
      replace hA := hA.below hn
      replace hC := hC.below hn
      replace hI := hI.below hn
      replace hJ := hJ.below hn
      replace hK := hK.below hn
      replace hL := hL.below hn
      replace hO := hO.below hn
      replace hbw := hbw.step hn (Nat.le_refl _)
      clear hn
      have ltO := oO.lt
      obtain ⟨Lc0, Lc1, Lc2, Lc3⟩ := oL.four
      obtain ⟨Lq0, Lq1, Lq2, Lq3⟩ := oL.frozen4
      go_wp2_with fail
      refine (qsign_any _ (mulZ q p) 0 _ hL.val HZ.out).mono ?_
      rintro e w11 ⟨rfl, hb⟩
      clear Lc0 Lc1 Lc2 Lc3 Lq0 Lq1 Lq2 Lq3
      replace oA := oA.stay hb
      replace ltA := oA.lt
      replace oC := oC.stay hb
      replace ltC := oC.lt
      replace oI := oI.stay hb
      replace ltI := oI.lt
      replace oJ := oJ.stay hb
      replace ltJ := oJ.lt
      replace oW := oW.stay hb
      replace ltW := oW.lt
      replace oL := oL.stay hb
      replace ltL := oL.lt
      replace oO := oO.stay hb
      replace ltO := oO.lt
      replace hA := hA.below hb
      replace hC := hC.below hb
      replace hI := hI.below hb
      replace hJ := hJ.below hb
      replace hK := hK.below hb
      replace hL := hL.below hb
      replace hO := hO.below hb
      replace hbw := hbw.step hb (Nat.le_refl _)
      clear hb
      go_wp2
      refine bodyPost_ret (v := (.bool true)) (by simp [results, Try.results3, go_sem]) rfl ?_
      exact ⟨rfl, hbw⟩
    · obtain ⟨sg, HS⟩ : ∃ z, Hid (p.num.sign = z) := ⟨_, rfl⟩
      have hsg : (sg == 0) = false := by rw [← HS.out, beq_eq_false_iff_ne]; exact fun h => hp0 (num_zero.1 (Int.sign_eq_zero_iff_zero.1 h))
      have HB2 : Hid ((mulC q p != 0) = true ∨ ((mulC q p != 0) = false ∧ (quoC (mulZ q p) p != 0) = true) ∨ ((mulC q p != 0) = false ∧ (quoC (mulZ q p) p != 0) = false ∧ cmpQ (quoZ (mulZ q p) p) q = 0)) := back_mul q hp0
      clear hp0
      obtain ⟨Cc0, Cc1, Cc2, Cc3⟩ := oC.four
      obtain ⟨Cq0, Cq1, Cq2, Cq3⟩ := oC.frozen4
      go_wp2_with fail
      refine (qsign_any _ p sg _ hC.val HS.out).mono ?_
      rintro e w9 ⟨rfl, hb⟩
      clear Cc0 Cc1 Cc2 Cc3 Cq0 Cq1 Cq2 Cq3
      replace oA := oA.stay hb
      replace ltA := oA.lt
      replace oC := oC.stay hb
      replace ltC := oC.lt
      replace oI := oI.stay hb
      replace ltI := oI.lt
      replace oJ := oJ.stay hb
      replace ltJ := oJ.lt
      replace oW := oW.stay hb
      replace ltW := oW.lt
      replace oL := oL.stay hb
      replace ltL := oL.lt
      replace hA := hA.below hb
      replace hC := hC.below hb
      replace hI := hI.below hb
      replace hJ := hJ.below hb
      replace hK := hK.below hb
      replace hL := hL.below hb
      replace hbw := hbw.step hb (Nat.le_refl _)
      clear hb
      obtain ⟨Lc0, Lc1, Lc2, Lc3⟩ := oL.four
      obtain ⟨Lq0, Lq1, Lq2, Lq3⟩ := oL.frozen4
      obtain ⟨Cc0, Cc1, Cc2, Cc3⟩ := oC.four
      obtain ⟨Cq0, Cq1, Cq2, Cq3⟩ := oC.frozen4
      go_wp2_with fail
      refine (quo_any _ _ (mulZ q p) p _ hL.val hC.val).mono ?_
      rintro e w10 ⟨o1, o2, o3, o4, o5, o6, o7, o8, rfl, hO, hb⟩
      clear Lc0 Lc1 Lc2 Lc3 Lq0 Lq1 Lq2 Lq3
      clear Cc0 Cc1 Cc2 Cc3 Cq0 Cq1 Cq2 Cq3
      replace oA := oA.stay hb
      replace ltA := oA.lt
      replace oC := oC.stay hb
      replace ltC := oC.lt
      replace oI := oI.stay hb
      replace ltI := oI.lt
      replace oJ := oJ.stay hb
      replace ltJ := oJ.lt
      replace oW := oW.stay hb
      replace ltW := oW.lt
      replace oL := oL.stay hb
      replace ltL := oL.lt
      replace hA := hA.below hb
      replace hC := hC.below hb
      replace hI := hI.below hb
      replace hJ := hJ.below hb
      replace hK := hK.below hb
      replace hL := hL.below hb
      replace hbw := hbw.step hb (Nat.le_refl _)
      clear hb
      have hn := below_new w10 (.cells #[.bool o1, .slice o2 o3 o4, .bool o5, .slice o6 o7 o8] 27 (0, 0))
      have oO := Blk.new w10 27 #[.bool o1, .slice o2 o3 o4, .bool o5, .slice o6 o7 o8]
      have neAO : w2.heap.size ≠ w10.heap.size := Nat.ne_of_lt ltA
      have neCO : w3.heap.size ≠ w10.heap.size := Nat.ne_of_lt ltC
      have neIO : w4.heap.size ≠ w10.heap.size := Nat.ne_of_lt ltI
      have neJO : w5.heap.size ≠ w10.heap.size := Nat.ne_of_lt ltJ
      have neWO : w7.heap.size ≠ w10.heap.size := Nat.ne_of_lt ltW
      have neLO : w8.heap.size ≠ w10.heap.size := Nat.ne_of_lt ltL
      have lwO : w.heap.size ≤ w10.heap.size := hbw.size
      replace oA := oA.stay hn
      replace ltA := oA.lt
      replace oC := oC.stay hn
      replace ltC := oC.lt
      replace oI := oI.stay hn
      replace ltI := oI.lt
      replace oJ := oJ.stay hn
      replace ltJ := oJ.lt
      replace oW := oW.stay hn
      replace ltW := oW.lt
      replace oL := oL.stay hn
      replace ltL := oL.lt
      replace hA := hA.below hn
      replace hC := hC.below hn
      replace hI := hI.below hn
      replace hJ := hJ.below hn
      replace hK := hK.below hn
      replace hL := hL.below hn
      replace hO := hO.below hn
      replace hbw := hbw.step hn (Nat.le_refl _)
      clear hn
      have ltO := oO.lt
      rcases HB2.out with d1 | ⟨d1, d2⟩ | ⟨d1, d2, d3⟩
      · go_wp2
        refine bodyPost_ret (v := (.bool true)) (by simp [results, Try.results3, go_sem]) rfl ?_
        exact ⟨rfl, hbw⟩
      · go_wp2
        refine bodyPost_ret (v := (.bool true)) (by simp [results, Try.results3, go_sem]) rfl ?_
        exact ⟨rfl, hbw⟩
      · obtain ⟨Oc0, Oc1, Oc2, Oc3⟩ := oO.four
        obtain ⟨Oq0, Oq1, Oq2, Oq3⟩ := oO.frozen4
        obtain ⟨Ac0, Ac1, Ac2, Ac3⟩ := oA.four
        obtain ⟨Aq0, Aq1, Aq2, Aq3⟩ := oA.frozen4
        go_wp2_with fail
        refine (qcmp_any _ _ (quoZ (mulZ q p) p) q _ hO.val hA.val).mono ?_
        rintro e w11 ⟨rfl, hb⟩
        clear Oc0 Oc1 Oc2 Oc3 Oq0 Oq1 Oq2 Oq3
        clear Ac0 Ac1 Ac2 Ac3 Aq0 Aq1 Aq2 Aq3
        replace oA := oA.stay hb
        replace ltA := oA.lt
        replace oC := oC.stay hb
        replace ltC := oC.lt
        replace oI := oI.stay hb
        replace ltI := oI.lt
        replace oJ := oJ.stay hb
        replace ltJ := oJ.lt
        replace oW := oW.stay hb
        replace ltW := oW.lt
        replace oL := oL.stay hb
        replace ltL := oL.lt
        replace oO := oO.stay hb
        replace ltO := oO.lt
        replace hA := hA.below hb
        replace hC := hC.below hb
        replace hI := hI.below hb
        replace hJ := hJ.below hb
        replace hK := hK.below hb
        replace hL := hL.below hb
        replace hO := hO.below hb
        replace hbw := hbw.step hb (Nat.le_refl _)
        clear hb
        go_wp2
        refine bodyPost_ret (v := (.bool true)) (by simp [results, Try.results3, go_sem]) rfl ?_
        exact ⟨rfl, hbw⟩
  · obtain ⟨Ac0, Ac1, Ac2, Ac3⟩ := oA.four
    obtain ⟨Aq0, Aq1, Aq2, Aq3⟩ := oA.frozen4
    obtain ⟨Cc0, Cc1, Cc2, Cc3⟩ := oC.four
    obtain ⟨Cq0, Cq1, Cq2, Cq3⟩ := oC.frozen4
    go_wp2_with fail
    refine (qmul_any _ _ q p _ hA.val hC.val).mono ?_
    rintro e w8 ⟨l1, l2, l3, l4, l5, l6, l7, l8, rfl, hL, hb⟩
    clear Ac0 Ac1 Ac2 Ac3 Aq0 Aq1 Aq2 Aq3
    clear Cc0 Cc1 Cc2 Cc3 Cq0 Cq1 Cq2 Cq3
    replace oA := oA.stay hb
    replace ltA := oA.lt
    replace oC := oC.stay hb
    replace ltC := oC.lt
    replace oI := oI.stay hb
    replace ltI := oI.lt
    replace oJ := oJ.stay hb
    replace ltJ := oJ.lt
    replace oW := oW.stay hb
    replace ltW := oW.lt
    replace hA := hA.below hb
    replace hC := hC.below hb
    replace hI := hI.below hb
    replace hJ := hJ.below hb
    replace hK := hK.below hb
    replace hbw := hbw.step hb (Nat.le_refl _)
    clear hb
    have hn := below_new w8 (.cells #[.bool l1, .slice l2 l3 l4, .bool l5, .slice l6 l7 l8] 27 (0, 0))
    have oL := Blk.new w8 27 #[.bool l1, .slice l2 l3 l4, .bool l5, .slice l6 l7 l8]
    have neAL : w2.heap.size ≠ w8.heap.size := Nat.ne_of_lt ltA
    have neCL : w3.heap.size ≠ w8.heap.size := Nat.ne_of_lt ltC
    have neIL : w4.heap.size ≠ w8.heap.size := Nat.ne_of_lt ltI
    have neJL : w5.heap.size ≠ w8.heap.size := Nat.ne_of_lt ltJ
    have neWL : w7.heap.size ≠ w8.heap.size := Nat.ne_of_lt ltW
    have lwL : w.heap.size ≤ w8.heap.size := hbw.size
    replace oA := oA.stay hn
    replace ltA := oA.lt
    replace oC := oC.stay hn
    replace ltC := oC.lt
    replace oI := oI.stay hn
    replace ltI := oI.lt
    replace oJ := oJ.stay hn
    replace ltJ := oJ.lt
    replace oW := oW.stay hn
    replace ltW := oW.lt
    replace hA := hA.below hn
    replace hC := hC.below hn
    replace hI := hI.below hn
    replace hJ := hJ.below hn
    replace hK := hK.below hn
    replace hL := hL.below hn
    replace hbw := hbw.step hn (Nat.le_refl _)
    clear hn
    have ltL := oL.lt
    by_cases hp0 : p = 0
    · have HS : Hid (p.num.sign = 0) := by show _ = _; rw [num_zero.2 hp0]; rfl
      have E1 : quoC q p = 12 := if_pos hp0
      have HZ : Hid ((mulZ q p).num.sign = 0) := mul_zero_sign hp0
      clear hp0
      obtain ⟨Cc0, Cc1, Cc2, Cc3⟩ := oC.four
      obtain ⟨Cq0, Cq1, Cq2, Cq3⟩ := oC.frozen4
      go_wp2_with fail
      refine (qsign_any _ p 0 _ hC.val HS.out).mono ?_
      rintro e w9 ⟨rfl, hb⟩
      clear Cc0 Cc1 Cc2 Cc3 Cq0 Cq1 Cq2 Cq3
      replace oA := oA.stay hb
      replace ltA := oA.lt
      replace oC := oC.stay hb
      replace ltC := oC.lt
      replace oI := oI.stay hb
      replace ltI := oI.lt
      replace oJ := oJ.stay hb
      replace ltJ := oJ.lt
      replace oW := oW.stay hb
      replace ltW := oW.lt
      replace oL := oL.stay hb
      replace ltL := oL.lt
      replace hA := hA.below hb
      replace hC := hC.below hb
      replace hI := hI.below hb
      replace hJ := hJ.below hb
      replace hK := hK.below hb
      replace hL := hL.below hb
      replace hbw := hbw.step hb (Nat.le_refl _)
      clear hb
      obtain ⟨Ac0, Ac1, Ac2, Ac3⟩ := oA.four
      obtain ⟨Aq0, Aq1, Aq2, Aq3⟩ := oA.frozen4
      obtain ⟨Cc0, Cc1, Cc2, Cc3⟩ := oC.four
      obtain ⟨Cq0, Cq1, Cq2, Cq3⟩ := oC.frozen4
      go_wp2_with fail
      refine (quo_any _ _ q p _ hA.val hC.val).mono ?_
      rintro e w10 ⟨o1, o2, o3, o4, o5, o6, o7, o8, rfl, hO, hb⟩
      clear Ac0 Ac1 Ac2 Ac3 Aq0 Aq1 Aq2 Aq3
      clear Cc0 Cc1 Cc2 Cc3 Cq0 Cq1 Cq2 Cq3
      replace oA := oA.stay hb
      replace ltA := oA.lt
      replace oC := oC.stay hb
      replace ltC := oC.lt
      replace oI := oI.stay hb
      replace ltI := oI.lt
      replace oJ := oJ.stay hb
      replace ltJ := oJ.lt
      replace oW := oW.stay hb
      replace ltW := oW.lt
      replace oL := oL.stay hb
      replace ltL := oL.lt
      replace hA := hA.below hb
      replace hC := hC.below hb
      replace hI := hI.below hb
      replace hJ := hJ.below hb
      replace hK := hK.below hb
      replace hL := hL.below hb
      replace hbw := hbw.step hb (Nat.le_refl _)
      clear hb
      have hn := below_new w10 (.cells #[.bool o1, .slice o2 o3 o4, .bool o5, .slice o6 o7 o8] 27 (0, 0))
      have oO := Blk.new w10 27 #[.bool o1, .slice o2 o3 o4, .bool o5, .slice o6 o7 o8]
      have neAO : w2.heap.size ≠ w10.heap.size := Nat.ne_of_lt ltA
      have neCO : w3.heap.size ≠ w10.heap.size := Nat.ne_of_lt ltC
      have neIO : w4.heap.size ≠ w10.heap.size := Nat.ne_of_lt ltI
      have neJO : w5.heap.size ≠ w10.heap.size := Nat.ne_of_lt ltJ
      have neWO : w7.heap.size ≠ w10.heap.size := Nat.ne_of_lt ltW
      have neLO : w8.heap.size ≠ w10.heap.size := Nat.ne_of_lt ltL
      have lwO : w.heap.size ≤ w10.heap.size := hbw.size
      replace oA := oA.stay hn
      replace ltA := oA.lt
      replace oC := oC.stay hn
      replace ltC := oC.lt
      replace oI := oI.stay hn
      replace ltI := oI.lt
      replace oJ := oJ.stay hn
      replace ltJ := oJ.lt
      replace oW := oW.stay hn
      replace ltW := oW.lt
      replace oL := oL.stay hn
      replace ltL := oL.lt
      replace hA := hA.below hn
      replace hC := hC.below hn
      replace hI := hI.below hn
      replace hJ := hJ.below hn
      replace hK := hK.below hn
      replace hL := hL.below hn
      replace hO := hO.below hn
      replace hbw := hbw.step hn (Nat.le_refl _)
      clear hn
      have ltO := oO.lt
      obtain ⟨Lc0, Lc1, Lc2, Lc3⟩ := oL.four
      obtain ⟨Lq0, Lq1, Lq2, Lq3⟩ := oL.frozen4
      go_wp2_with fail
      refine (qsign_any _ (mulZ q p) 0 _ hL.val HZ.out).mono ?_
      rintro e w11 ⟨rfl, hb⟩
      clear Lc0 Lc1 Lc2 Lc3 Lq0 Lq1 Lq2 Lq3
      replace oA := oA.stay hb
      replace ltA := oA.lt
      replace oC := oC.stay hb
      replace ltC := oC.lt
      replace oI := oI.stay hb
      replace ltI := oI.lt
      replace oJ := oJ.stay hb
      replace ltJ := oJ.lt
      replace oW := oW.stay hb
      replace ltW := oW.lt
      replace oL := oL.stay hb
      replace ltL := oL.lt
      replace oO := oO.stay hb
      replace ltO := oO.lt
      replace hA := hA.below hb
      replace hC := hC.below hb
      replace hI := hI.below hb
      replace hJ := hJ.below hb
      replace hK := hK.below hb
      replace hL := hL.below hb
      replace hO := hO.below hb
      replace hbw := hbw.step hb (Nat.le_refl _)
      clear hb
      go_wp2
      refine bodyPost_ret (v := (.bool true)) (by simp [results, Try.results3, go_sem]) rfl ?_
      exact ⟨rfl, hbw⟩
    · obtain ⟨sg, HS⟩ : ∃ z, Hid (p.num.sign = z) := ⟨_, rfl⟩
      have hsg : (sg == 0) = false := by rw [← HS.out, beq_eq_false_iff_ne]; exact fun h => hp0 (num_zero.1 (Int.sign_eq_zero_iff_zero.1 h))
      have HB2 : Hid ((mulC q p != 0) = true ∨ ((mulC q p != 0) = false ∧ (quoC (mulZ q p) p != 0) = true) ∨ ((mulC q p != 0) = false ∧ (quoC (mulZ q p) p != 0) = false ∧ cmpQ (quoZ (mulZ q p) p) q = 0)) := back_mul q hp0
      clear hp0
      obtain ⟨Cc0, Cc1, Cc2, Cc3⟩ := oC.four
      obtain ⟨Cq0, Cq1, Cq2, Cq3⟩ := oC.frozen4
      go_wp2_with fail
      refine (qsign_any _ p sg _ hC.val HS.out).mono ?_
      rintro e w9 ⟨rfl, hb⟩
      clear Cc0 Cc1 Cc2 Cc3 Cq0 Cq1 Cq2 Cq3
      replace oA := oA.stay hb
      replace ltA := oA.lt
      replace oC := oC.stay hb
      replace ltC := oC.lt
      replace oI := oI.stay hb
      replace ltI := oI.lt
      replace oJ := oJ.stay hb
      replace ltJ := oJ.lt
      replace oW := oW.stay hb
      replace ltW := oW.lt
      replace oL := oL.stay hb
      replace ltL := oL.lt
      replace hA := hA.below hb
      replace hC := hC.below hb
      replace hI := hI.below hb
      replace hJ := hJ.below hb
      replace hK := hK.below hb
      replace hL := hL.below hb
      replace hbw := hbw.step hb (Nat.le_refl _)
      clear hb
      obtain ⟨Lc0, Lc1, Lc2, Lc3⟩ := oL.four
      obtain ⟨Lq0, Lq1, Lq2, Lq3⟩ := oL.frozen4
      obtain ⟨Cc0, Cc1, Cc2, Cc3⟩ := oC.four
      obtain ⟨Cq0, Cq1, Cq2, Cq3⟩ := oC.frozen4
      go_wp2_with fail
      refine (quo_any _ _ (mulZ q p) p _ hL.val hC.val).mono ?_
      rintro e w10 ⟨o1, o2, o3, o4, o5, o6, o7, o8, rfl, hO, hb⟩
      clear Lc0 Lc1 Lc2 Lc3 Lq0 Lq1 Lq2 Lq3
      clear Cc0 Cc1 Cc2 Cc3 Cq0 Cq1 Cq2 Cq3
      replace oA := oA.stay hb
      replace ltA := oA.lt
      replace oC := oC.stay hb
      replace ltC := oC.lt
      replace oI := oI.stay hb
      replace ltI := oI.lt
      replace oJ := oJ.stay hb
      replace ltJ := oJ.lt
      replace oW := oW.stay hb
      replace ltW := oW.lt
      replace oL := oL.stay hb
      replace ltL := oL.lt
      replace hA := hA.below hb
      replace hC := hC.below hb
      replace hI := hI.below hb
      replace hJ := hJ.below hb
      replace hK := hK.below hb
      replace hL := hL.below hb
      replace hbw := hbw.step hb (Nat.le_refl _)
      clear hb
      have hn := below_new w10 (.cells #[.bool o1, .slice o2 o3 o4, .bool o5, .slice o6 o7 o8] 27 (0, 0))
      have oO := Blk.new w10 27 #[.bool o1, .slice o2 o3 o4, .bool o5, .slice o6 o7 o8]
      have neAO : w2.heap.size ≠ w10.heap.size := Nat.ne_of_lt ltA
      have neCO : w3.heap.size ≠ w10.heap.size := Nat.ne_of_lt ltC
      have neIO : w4.heap.size ≠ w10.heap.size := Nat.ne_of_lt ltI
      have neJO : w5.heap.size ≠ w10.heap.size := Nat.ne_of_lt ltJ
      have neWO : w7.heap.size ≠ w10.heap.size := Nat.ne_of_lt ltW
      have neLO : w8.heap.size ≠ w10.heap.size := Nat.ne_of_lt ltL
      have lwO : w.heap.size ≤ w10.heap.size := hbw.size
      replace oA := oA.stay hn
      replace ltA := oA.lt
      replace oC := oC.stay hn
      replace ltC := oC.lt
      replace oI := oI.stay hn
      replace ltI := oI.lt
      replace oJ := oJ.stay hn
      replace ltJ := oJ.lt
      replace oW := oW.stay hn
      replace ltW := oW.lt
      replace oL := oL.stay hn
      replace ltL := oL.lt
      replace hA := hA.below hn
      replace hC := hC.below hn
      replace hI := hI.below hn
      replace hJ := hJ.below hn
      replace hK := hK.below hn
      replace hL := hL.below hn
      replace hO := hO.below hn
      replace hbw := hbw.step hn (Nat.le_refl _)
      clear hn
      have ltO := oO.lt
      rcases HB2.out with d1 | ⟨d1, d2⟩ | ⟨d1, d2, d3⟩
      · go_wp2
        refine bodyPost_ret (v := (.bool true)) (by simp [results, Try.results3, go_sem]) rfl ?_
        exact ⟨rfl, hbw⟩
      · go_wp2
        refine bodyPost_ret (v := (.bool true)) (by simp [results, Try.results3, go_sem]) rfl ?_
        exact ⟨rfl, hbw⟩
      · obtain ⟨Oc0, Oc1, Oc2, Oc3⟩ := oO.four
        obtain ⟨Oq0, Oq1, Oq2, Oq3⟩ := oO.frozen4
        obtain ⟨Ac0, Ac1, Ac2, Ac3⟩ := oA.four
        obtain ⟨Aq0, Aq1, Aq2, Aq3⟩ := oA.frozen4
        go_wp2_with fail
        refine (qcmp_any _ _ (quoZ (mulZ q p) p) q _ hO.val hA.val).mono ?_
        rintro e w11 ⟨rfl, hb⟩
        clear Oc0 Oc1 Oc2 Oc3 Oq0 Oq1 Oq2 Oq3
        clear Ac0 Ac1 Ac2 Ac3 Aq0 Aq1 Aq2 Aq3
        replace oA := oA.stay hb
        replace ltA := oA.lt
        replace oC := oC.stay hb
        replace ltC := oC.lt
        replace oI := oI.stay hb
        replace ltI := oI.lt
        replace oJ := oJ.stay hb
        replace ltJ := oJ.lt
        replace oW := oW.stay hb
        replace ltW := oW.lt
        replace oL := oL.stay hb
        replace ltL := oL.lt
        replace oO := oO.stay hb
        replace ltO := oO.lt
        replace hA := hA.below hb
        replace hC := hC.below hb
        replace hI := hI.below hb
        replace hJ := hJ.below hb
        replace hK := hK.below hb
        replace hL := hL.below hb
        replace hO := hO.below hb
        replace hbw := hbw.step hb (Nat.le_refl _)
        clear hb
        go_wp2
        refine bodyPost_ret (v := (.bool true)) (by simp [results, Try.results3, go_sem]) rfl ?_
        exact ⟨rfl, hbw⟩
  · obtain ⟨Wc0, Wc1, Wc2, Wc3⟩ := oW.four
    obtain ⟨Wq0, Wq1, Wq2, Wq3⟩ := oW.frozen4
    obtain ⟨Ac0, Ac1, Ac2, Ac3⟩ := oA.four
    obtain ⟨Aq0, Aq1, Aq2, Aq3⟩ := oA.frozen4
    go_wp2_with fail
    refine (qcmp_any _ _ (addZ (addZ q p) (-p)) q _ hK.val hA.val).mono ?_
    rintro e w8 ⟨rfl, hb⟩
    clear Wc0 Wc1 Wc2 Wc3 Wq0 Wq1 Wq2 Wq3
    clear Ac0 Ac1 Ac2 Ac3 Aq0 Aq1 Aq2 Aq3
    replace oA := oA.stay hb
    replace ltA := oA.lt
    replace oC := oC.stay hb
    replace ltC := oC.lt
    replace oI := oI.stay hb
    replace ltI := oI.lt
    replace oJ := oJ.stay hb
    replace ltJ := oJ.lt
    replace oW := oW.stay hb
    replace ltW := oW.lt
    replace hA := hA.below hb
    replace hC := hC.below hb
    replace hI := hI.below hb
    replace hJ := hJ.below hb
    replace hK := hK.below hb
    replace hbw := hbw.step hb (Nat.le_refl _)
    clear hb
    obtain ⟨Ac0, Ac1, Ac2, Ac3⟩ := oA.four
    obtain ⟨Aq0, Aq1, Aq2, Aq3⟩ := oA.frozen4
    obtain ⟨Cc0, Cc1, Cc2, Cc3⟩ := oC.four
    obtain ⟨Cq0, Cq1, Cq2, Cq3⟩ := oC.frozen4
    go_wp2_with fail
    refine (qmul_any _ _ q p _ hA.val hC.val).mono ?_
    rintro e w9 ⟨l1, l2, l3, l4, l5, l6, l7, l8, rfl, hL, hb⟩
    clear Ac0 Ac1 Ac2 Ac3 Aq0 Aq1 Aq2 Aq3
    clear Cc0 Cc1 Cc2 Cc3 Cq0 Cq1 Cq2 Cq3
    replace oA := oA.stay hb
    replace ltA := oA.lt
    replace oC := oC.stay hb
    replace ltC := oC.lt
    replace oI := oI.stay hb
    replace ltI := oI.lt
    replace oJ := oJ.stay hb
    replace ltJ := oJ.lt
    replace oW := oW.stay hb
    replace ltW := oW.lt
    replace hA := hA.below hb
    replace hC := hC.below hb
    replace hI := hI.below hb
    replace hJ := hJ.below hb
    replace hK := hK.below hb
    replace hbw := hbw.step hb (Nat.le_refl _)
    clear hb
    have hn := below_new w9 (.cells #[.bool l1, .slice l2 l3 l4, .bool l5, .slice l6 l7 l8] 27 (0, 0))
    have oL := Blk.new w9 27 #[.bool l1, .slice l2 l3 l4, .bool l5, .slice l6 l7 l8]
    have neAL : w2.heap.size ≠ w9.heap.size := Nat.ne_of_lt ltA
    have neCL : w3.heap.size ≠ w9.heap.size := Nat.ne_of_lt ltC
    have neIL : w4.heap.size ≠ w9.heap.size := Nat.ne_of_lt ltI
    have neJL : w5.heap.size ≠ w9.heap.size := Nat.ne_of_lt ltJ
    have neWL : w7.heap.size ≠ w9.heap.size := Nat.ne_of_lt ltW
    have lwL : w.heap.size ≤ w9.heap.size := hbw.size
    replace oA := oA.stay hn
    replace ltA := oA.lt
    replace oC := oC.stay hn
    replace ltC := oC.lt
    replace oI := oI.stay hn
    replace ltI := oI.lt
    replace oJ := oJ.stay hn
    replace ltJ := oJ.lt
    replace oW := oW.stay hn
    replace ltW := oW.lt
    replace hA := hA.below hn
    replace hC := hC.below hn
    replace hI := hI.below hn
    replace hJ := hJ.below hn
    replace hK := hK.below hn
    replace hL := hL.below hn
    replace hbw := hbw.step hn (Nat.le_refl _)
    clear hn
    have ltL := oL.lt
    by_cases hp0 : p = 0
    · have HS : Hid (p.num.sign = 0) := by show _ = _; rw [num_zero.2 hp0]; rfl
      have E1 : quoC q p = 12 := if_pos hp0
      have HZ : Hid ((mulZ q p).num.sign = 0) := mul_zero_sign hp0
      clear hp0
      obtain ⟨Cc0, Cc1, Cc2, Cc3⟩ := oC.four
      obtain ⟨Cq0, Cq1, Cq2, Cq3⟩ := oC.frozen4
      go_wp2_with fail
      refine (qsign_any _ p 0 _ hC.val HS.out).mono ?_
      rintro e w10 ⟨rfl, hb⟩
      clear Cc0 Cc1 Cc2 Cc3 Cq0 Cq1 Cq2 Cq3
      replace oA := oA.stay hb
      replace ltA := oA.lt
      replace oC := oC.stay hb
      replace ltC := oC.lt
      replace oI := oI.stay hb
      replace ltI := oI.lt
      replace oJ := oJ.stay hb
      replace ltJ := oJ.lt
      replace oW := oW.stay hb
      replace ltW := oW.lt
      replace oL := oL.stay hb
      replace ltL := oL.lt
      replace hA := hA.below hb
      replace hC := hC.below hb
      replace hI := hI.below hb
      replace hJ := hJ.below hb
      replace hK := hK.below hb
      replace hL := hL.below hb
      replace hbw := hbw.step hb (Nat.le_refl _)
      clear hb
      obtain ⟨Ac0, Ac1, Ac2, Ac3⟩ := oA.four
      obtain ⟨Aq0, Aq1, Aq2, Aq3⟩ := oA.frozen4
      obtain ⟨Cc0, Cc1, Cc2, Cc3⟩ := oC.four
      obtain ⟨Cq0, Cq1, Cq2, Cq3⟩ := oC.frozen4
      go_wp2_with fail
      refine (quo_any _ _ q p _ hA.val hC.val).mono ?_
      rintro e w11 ⟨o1, o2, o3, o4, o5, o6, o7, o8, rfl, hO, hb⟩
      clear Ac0 Ac1 Ac2 Ac3 Aq0 Aq1 Aq2 Aq3
      clear Cc0 Cc1 Cc2 Cc3 Cq0 Cq1 Cq2 Cq3
      replace oA := oA.stay hb
      replace ltA := oA.lt
      replace oC := oC.stay hb
      replace ltC := oC.lt
      replace oI := oI.stay hb
      replace ltI := oI.lt
      replace oJ := oJ.stay hb
      replace ltJ := oJ.lt
      replace oW := oW.stay hb
      replace ltW := oW.lt
      replace oL := oL.stay hb
      replace ltL := oL.lt
      replace hA := hA.below hb
      replace hC := hC.below hb
      replace hI := hI.below hb
      replace hJ := hJ.below hb
      replace hK := hK.below hb
      replace hL := hL.below hb
      replace hbw := hbw.step hb (Nat.le_refl _)
      clear hb
      have hn := below_new w11 (.cells #[.bool o1, .slice o2 o3 o4, .bool o5, .slice o6 o7 o8] 27 (0, 0))
      have oO := Blk.new w11 27 #[.bool o1, .slice o2 o3 o4, .bool o5, .slice o6 o7 o8]
      have neAO : w2.heap.size ≠ w11.heap.size := Nat.ne_of_lt ltA
      have neCO : w3.heap.size ≠ w11.heap.size := Nat.ne_of_lt ltC
      have neIO : w4.heap.size ≠ w11.heap.size := Nat.ne_of_lt ltI
      have neJO : w5.heap.size ≠ w11.heap.size := Nat.ne_of_lt ltJ
      have neWO : w7.heap.size ≠ w11.heap.size := Nat.ne_of_lt ltW
      have neLO : w9.heap.size ≠ w11.heap.size := Nat.ne_of_lt ltL
      have lwO : w.heap.size ≤ w11.heap.size := hbw.size
      replace oA := oA.stay hn
      replace ltA := oA.lt
      replace oC := oC.stay hn
      replace ltC := oC.lt
      replace oI := oI.stay hn
      replace ltI := oI.lt
      replace oJ := oJ.stay hn
      replace ltJ := oJ.lt
      replace oW := oW.stay hn
      replace ltW := oW.lt
      replace oL := oL.stay hn
      replace ltL := oL.lt
      replace hA := hA.below hn
      replace hC := hC.below hn
      replace hI := hI.below hn
      replace hJ := hJ.below hn
      replace hK := hK.below hn
      replace hL := hL.below hn
      replace hO := hO.below hn
      replace hbw := hbw.step hn (Nat.le_refl _)
      clear hn
      have ltO := oO.lt
      obtain ⟨Lc0, Lc1, Lc2, Lc3⟩ := oL.four
      obtain ⟨Lq0, Lq1, Lq2, Lq3⟩ := oL.frozen4
      go_wp2_with fail
      refine (qsign_any _ (mulZ q p) 0 _ hL.val HZ.out).mono ?_
      rintro e w12 ⟨rfl, hb⟩
      clear Lc0 Lc1 Lc2 Lc3 Lq0 Lq1 Lq2 Lq3
      replace oA := oA.stay hb
      replace ltA := oA.lt
      replace oC := oC.stay hb
      replace ltC := oC.lt
      replace oI := oI.stay hb
      replace ltI := oI.lt
      replace oJ := oJ.stay hb
      replace ltJ := oJ.lt
      replace oW := oW.stay hb
      replace ltW := oW.lt
      replace oL := oL.stay hb
      replace ltL := oL.lt
      replace oO := oO.stay hb
      replace ltO := oO.lt
      replace hA := hA.below hb
      replace hC := hC.below hb
      replace hI := hI.below hb
      replace hJ := hJ.below hb
      replace hK := hK.below hb
      replace hL := hL.below hb
      replace hO := hO.below hb
      replace hbw := hbw.step hb (Nat.le_refl _)
      clear hb
      go_wp2
      refine bodyPost_ret (v := (.bool true)) (by simp [results, Try.results3, go_sem]) rfl ?_
      exact ⟨rfl, hbw⟩
    · obtain ⟨sg, HS⟩ : ∃ z, Hid (p.num.sign = z) := ⟨_, rfl⟩
      have hsg : (sg == 0) = false := by rw [← HS.out, beq_eq_false_iff_ne]; exact fun h => hp0 (num_zero.1 (Int.sign_eq_zero_iff_zero.1 h))
      have HB2 : Hid ((mulC q p != 0) = true ∨ ((mulC q p != 0) = false ∧ (quoC (mulZ q p) p != 0) = true) ∨ ((mulC q p != 0) = false ∧ (quoC (mulZ q p) p != 0) = false ∧ cmpQ (quoZ (mulZ q p) p) q = 0)) := back_mul q hp0
      clear hp0
      obtain ⟨Cc0, Cc1, Cc2, Cc3⟩ := oC.four
      obtain ⟨Cq0, Cq1, Cq2, Cq3⟩ := oC.frozen4
      go_wp2_with fail
      refine (qsign_any _ p sg _ hC.val HS.out).mono ?_
      rintro e w10 ⟨rfl, hb⟩
      clear Cc0 Cc1 Cc2 Cc3 Cq0 Cq1 Cq2 Cq3
      replace oA := oA.stay hb
      replace ltA := oA.lt
      replace oC := oC.stay hb
      replace ltC := oC.lt
      replace oI := oI.stay hb
      replace ltI := oI.lt
      replace oJ := oJ.stay hb
      replace ltJ := oJ.lt
      replace oW := oW.stay hb
      replace ltW := oW.lt
      replace oL := oL.stay hb
      replace ltL := oL.lt
      replace hA := hA.below hb
      replace hC := hC.below hb
      replace hI := hI.below hb
      replace hJ := hJ.below hb
      replace hK := hK.below hb
      replace hL := hL.below hb
      replace hbw := hbw.step hb (Nat.le_refl _)
      clear hb
      obtain ⟨Lc0, Lc1, Lc2, Lc3⟩ := oL.four
      obtain ⟨Lq0, Lq1, Lq2, Lq3⟩ := oL.frozen4
      obtain ⟨Cc0, Cc1, Cc2, Cc3⟩ := oC.four
      obtain ⟨Cq0, Cq1, Cq2, Cq3⟩ := oC.frozen4
      go_wp2_with fail
      refine (quo_any _ _ (mulZ q p) p _ hL.val hC.val).mono ?_
      rintro e w11 ⟨o1, o2, o3, o4, o5, o6, o7, o8, rfl, hO, hb⟩
      clear Lc0 Lc1 Lc2 Lc3 Lq0 Lq1 Lq2 Lq3
      clear Cc0 Cc1 Cc2 Cc3 Cq0 Cq1 Cq2 Cq3
      replace oA := oA.stay hb
      replace ltA := oA.lt
      replace oC := oC.stay hb
      replace ltC := oC.lt
      replace oI := oI.stay hb
      replace ltI := oI.lt
      replace oJ := oJ.stay hb
      replace ltJ := oJ.lt
      replace oW := oW.stay hb
      replace ltW := oW.lt
      replace oL := oL.stay hb
      replace ltL := oL.lt
      replace hA := hA.below hb
      replace hC := hC.below hb
      replace hI := hI.below hb
      replace hJ := hJ.below hb
      replace hK := hK.below hb
      replace hL := hL.below hb
      replace hbw := hbw.step hb (Nat.le_refl _)
      clear hb
      have hn := below_new w11 (.cells #[.bool o1, .slice o2 o3 o4, .bool o5, .slice o6 o7 o8] 27 (0, 0))
      have oO := Blk.new w11 27 #[.bool o1, .slice o2 o3 o4, .bool o5, .slice o6 o7 o8]
      have neAO : w2.heap.size ≠ w11.heap.size := Nat.ne_of_lt ltA
      have neCO : w3.heap.size ≠ w11.heap.size := Nat.ne_of_lt ltC
      have neIO : w4.heap.size ≠ w11.heap.size := Nat.ne_of_lt ltI
      have neJO : w5.heap.size ≠ w11.heap.size := Nat.ne_of_lt ltJ
      have neWO : w7.heap.size ≠ w11.heap.size := Nat.ne_of_lt ltW
      have neLO : w9.heap.size ≠ w11.heap.size := Nat.ne_of_lt ltL
      have lwO : w.heap.size ≤ w11.heap.size := hbw.size
      replace oA := oA.stay hn
      replace ltA := oA.lt
      replace oC := oC.stay hn
      replace ltC := oC.lt
      replace oI := oI.stay hn
      replace ltI := oI.lt
      replace oJ := oJ.stay hn
      replace ltJ := oJ.lt
      replace oW := oW.stay hn
      replace ltW := oW.lt
      replace oL := oL.stay hn
      replace ltL := oL.lt
      replace hA := hA.below hn
      replace hC := hC.below hn
      replace hI := hI.below hn
      replace hJ := hJ.below hn
      replace hK := hK.below hn
      replace hL := hL.below hn
      replace hO := hO.below hn
      replace hbw := hbw.step hn (Nat.le_refl _)
      clear hn
      have ltO := oO.lt
      rcases HB2.out with d1 | ⟨d1, d2⟩ | ⟨d1, d2, d3⟩
      · go_wp2
        refine bodyPost_ret (v := (.bool true)) (by simp [results, Try.results3, go_sem]) rfl ?_
        exact ⟨rfl, hbw⟩
      · go_wp2
        refine bodyPost_ret (v := (.bool true)) (by simp [results, Try.results3, go_sem]) rfl ?_
        exact ⟨rfl, hbw⟩
      · obtain ⟨Oc0, Oc1, Oc2, Oc3⟩ := oO.four
        obtain ⟨Oq0, Oq1, Oq2, Oq3⟩ := oO.frozen4
        obtain ⟨Ac0, Ac1, Ac2, Ac3⟩ := oA.four
        obtain ⟨Aq0, Aq1, Aq2, Aq3⟩ := oA.frozen4
        go_wp2_with fail
        refine (qcmp_any _ _ (quoZ (mulZ q p) p) q _ hO.val hA.val).mono ?_
        rintro e w12 ⟨rfl, hb⟩
        clear Oc0 Oc1 Oc2 Oc3 Oq0 Oq1 Oq2 Oq3
        clear Ac0 Ac1 Ac2 Ac3 Aq0 Aq1 Aq2 Aq3
        replace oA := oA.stay hb
        replace ltA := oA.lt
        replace oC := oC.stay hb
        replace ltC := oC.lt
        replace oI := oI.stay hb
        replace ltI := oI.lt
        replace oJ := oJ.stay hb
        replace ltJ := oJ.lt
        replace oW := oW.stay hb
        replace ltW := oW.lt
        replace oL := oL.stay hb
        replace ltL := oL.lt
        replace oO := oO.stay hb
        replace ltO := oO.lt
        replace hA := hA.below hb
        replace hC := hC.below hb
        replace hI := hI.below hb
        replace hJ := hJ.below hb
        replace hK := hK.below hb
        replace hL := hL.below hb
        replace hO := hO.below hb
        replace hbw := hbw.step hb (Nat.le_refl _)
        clear hb
        go_wp2
        refine bodyPost_ret (v := (.bool true)) (by simp [results, Try.results3, go_sem]) rfl ?_
        exact ⟨rfl, hbw⟩
end Go.Proofs.Ytidpbdhhbeaijab
