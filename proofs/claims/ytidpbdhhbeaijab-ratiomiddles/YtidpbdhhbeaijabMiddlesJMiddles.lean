/- The walk of suretylaw02.RatioMiddles: it answers true at every input. -/
import Derived.Test.YtidpbdhhbeaijabL0JMiddles
import Derived.Test.YtidpbdhhbeaijabQ7JMiddles
import Derived.Test.YtidpbdhhbeaijabQ8JMiddles
namespace Go.Proofs.Ytidpbdhhbeaijab
open Go.RowKit
theorem addC_zero {x y : Rat} (h : addC x y = 0) : aFits lim x y := by
  unfold addC at h
  split at h
  · assumption
  · cases h
theorem mulC_zero {x y : Rat} (h : mulC x y = 0) : mFits x y := by
  unfold mulC at h
  split at h
  · assumption
  · cases h
theorem mid_facts {q p : Rat} (h1 : addC q p = 0) (h2 : quoC (addZ q p) ((2 : Int) : Rat) = 0) : cmpQ q (quoZ (addZ q p) ((2 : Int) : Rat)) = cmpQ q p ∧ cmpQ (quoZ (addZ q p) ((2 : Int) : Rat)) p = cmpQ q p := by
  have h20 : ((2 : Int) : Rat) ≠ 0 := by decide
  have e1 : addZ q p = q + p := addZ_yes (addC_zero h1)
  rw [e1] at h2 ⊢
  have hm : mulC (q + p) ((2 : Int) : Rat)⁻¹ = 0 := by rw [quoC, if_neg h20] at h2; exact h2
  have e2 : quoZ (q + p) ((2 : Int) : Rat) = (q + p) * ((2 : Int) : Rat)⁻¹ := by rw [quoZ, if_neg h20]; exact mulZ_yes (mulC_zero hm)
  rw [e2]
  have e3 : (q + p) * ((2 : Int) : Rat)⁻¹ + (q + p) * ((2 : Int) : Rat)⁻¹ = q + p := by
    rw [← Rat.mul_add]
    have : ((2 : Int) : Rat)⁻¹ + ((2 : Int) : Rat)⁻¹ = 1 := by decide +kernel
    rw [this, Rat.mul_one]
  generalize (q + p) * ((2 : Int) : Rat)⁻¹ = d at e3
  clear e1 e2 hm h1 h2 h20
  rcases cmpQ_cases q p with h | h | h
  · have k := (cmpQ_lt _ _).1 h
    rw [h, cmpQ_lt, cmpQ_lt]
    constructor <;> grind
  · have k := (cmpQ_eq _ _).1 h
    rw [h, cmpQ_eq, cmpQ_eq]
    constructor <;> grind
  · have k := (cmpQ_gt _ _).1 h
    rw [h, cmpQ_gt, cmpQ_gt]
    constructor <;> grind

set_option maxRecDepth 20000 in
set_option maxHeartbeats 16000000 in
theorem ratioMiddles_any (s t : ByteArray) (w : World) (hs : s.size ≤ maxLen) (ht : t.size ≤ maxLen) :
    Calls Try.prog 6 #[.string s, .string t] w fun e w' => e = .returned (.bool true) ∧ Below w.heap.size w w' := by
  have hbw := Below.refl w.heap.size w
  go_enter Try.func6, Try.ntmps6
  go_wp2_with fail
  refine (awake2_any _).mono ?_
  rintro e w1 ⟨rfl, hb⟩
  replace hbw := hbw.step hb (Nat.le_refl _)
  clear hb
  go_wp2_with fail
  refine (rat_any s _ hs).mono ?_
  rintro e w2 ⟨q, xA, aA, nA, cA, yA, eA, mA, fA, xAr, aAr, nAr, cAr, yAr, eAr, mAr, fAr, rfl, hA, hAr, hb⟩
  replace hbw := hbw.step hb (Nat.le_refl _)
  clear hb
  have hn := below_new w2 (.cells #[.bool xA, .slice aA nA cA, .bool yA, .slice eA mA fA] 27 (0, 0))
  have oA := Blk.new w2 27 #[.bool xA, .slice aA nA cA, .bool yA, .slice eA mA fA]
  have lwA : w.heap.size ≤ w2.heap.size := hbw.size
  replace hA := hA.below hn
  replace hAr := hAr.below hn
  replace hbw := hbw.step hn (Nat.le_refl _)
  clear hn
  have ltA := oA.lt
  have hn := below_new (w2.alloc (.cells #[.bool xA, .slice aA nA cA, .bool yA, .slice eA mA fA] 27 (0, 0))) (.cells #[.bool xAr, .slice aAr nAr cAr, .bool yAr, .slice eAr mAr fAr] 32 (0, 0))
  have oAr := Blk.new (w2.alloc (.cells #[.bool xA, .slice aA nA cA, .bool yA, .slice eA mA fA] 27 (0, 0))) 32 #[.bool xAr, .slice aAr nAr cAr, .bool yAr, .slice eAr mAr fAr]
  simp only [World.size_alloc] at oAr
  have neAAr : w2.heap.size ≠ w2.heap.size + 1 := by have := ltA; simp at this; omega
  replace oA := oA.stay hn
  replace ltA := oA.lt
  replace hA := hA.below hn
  replace hAr := hAr.below hn
  replace hbw := hbw.step hn (Nat.le_refl _)
  clear hn
  have ltAr := oAr.lt
  clear ltAr oAr
  clear hAr
  go_wp2_with fail
  refine (rat_any t _ ht).mono ?_
  rintro e w3 ⟨p, xC, aC, nC, cC, yC, eC, mC, fC, xCr, aCr, nCr, cCr, yCr, eCr, mCr, fCr, rfl, hC, hCr, hb⟩
  replace oA := oA.stay hb
  replace ltA := oA.lt
  replace hA := hA.below hb
  replace hbw := hbw.step hb (Nat.le_refl _)
  clear hb
  have hn := below_new w3 (.cells #[.bool xC, .slice aC nC cC, .bool yC, .slice eC mC fC] 27 (0, 0))
  have oC := Blk.new w3 27 #[.bool xC, .slice aC nC cC, .bool yC, .slice eC mC fC]
  have neAC : w2.heap.size ≠ w3.heap.size := Nat.ne_of_lt ltA
  have lwC : w.heap.size ≤ w3.heap.size := hbw.size
  replace oA := oA.stay hn
  replace ltA := oA.lt
  replace hA := hA.below hn
  replace hC := hC.below hn
  replace hCr := hCr.below hn
  replace hbw := hbw.step hn (Nat.le_refl _)
  clear hn
  have ltC := oC.lt
  have hn := below_new (w3.alloc (.cells #[.bool xC, .slice aC nC cC, .bool yC, .slice eC mC fC] 27 (0, 0))) (.cells #[.bool xCr, .slice aCr nCr cCr, .bool yCr, .slice eCr mCr fCr] 32 (0, 0))
  have oCr := Blk.new (w3.alloc (.cells #[.bool xC, .slice aC nC cC, .bool yC, .slice eC mC fC] 27 (0, 0))) 32 #[.bool xCr, .slice aCr nCr cCr, .bool yCr, .slice eCr mCr fCr]
  simp only [World.size_alloc] at oCr
  have neACr : w2.heap.size ≠ w3.heap.size + 1 := by have := ltA; simp at this; omega
  have neCCr : w3.heap.size ≠ w3.heap.size + 1 := by have := ltC; simp at this; omega
  replace oA := oA.stay hn
  replace ltA := oA.lt
  replace oC := oC.stay hn
  replace ltC := oC.lt
  replace hA := hA.below hn
  replace hC := hC.below hn
  replace hCr := hCr.below hn
  replace hbw := hbw.step hn (Nat.le_refl _)
  clear hn
  have ltCr := oCr.lt
  clear ltCr oCr
  clear hCr
  obtain ⟨Ac0, Ac1, Ac2, Ac3⟩ := oA.four
  obtain ⟨Aq0, Aq1, Aq2, Aq3⟩ := oA.frozen4
  obtain ⟨Cc0, Cc1, Cc2, Cc3⟩ := oC.four
  obtain ⟨Cq0, Cq1, Cq2, Cq3⟩ := oC.frozen4
  go_wp2_with fail
  refine (qadd_any _ _ q p _ hA.val hC.val).mono ?_
  rintro e w4 ⟨i1, i2, i3, i4, i5, i6, i7, i8, rfl, hI, hb⟩
  clear Ac0 Ac1 Ac2 Ac3 Aq0 Aq1 Aq2 Aq3
  clear Cc0 Cc1 Cc2 Cc3 Cq0 Cq1 Cq2 Cq3
  replace oA := oA.stay hb
  replace ltA := oA.lt
  replace oC := oC.stay hb
  replace ltC := oC.lt
  replace hA := hA.below hb
  replace hC := hC.below hb
  replace hbw := hbw.step hb (Nat.le_refl _)
  clear hb
  have hn := below_new w4 (.cells #[.bool i1, .slice i2 i3 i4, .bool i5, .slice i6 i7 i8] 27 (0, 0))
  have oI := Blk.new w4 27 #[.bool i1, .slice i2 i3 i4, .bool i5, .slice i6 i7 i8]
  have neAI : w2.heap.size ≠ w4.heap.size := Nat.ne_of_lt ltA
  have neCI : w3.heap.size ≠ w4.heap.size := Nat.ne_of_lt ltC
  have lwI : w.heap.size ≤ w4.heap.size := hbw.size
  replace oA := oA.stay hn
  replace ltA := oA.lt
  replace oC := oC.stay hn
  replace ltC := oC.lt
  replace hA := hA.below hn
  replace hC := hC.below hn
  replace hI := hI.below hn
  replace hbw := hbw.step hn (Nat.le_refl _)
  clear hn
  have ltI := oI.lt
  go_wp2
  generalize (w4.alloc (.cells #[.bool i1, .slice i2 i3 i4, .bool i5, .slice i6 i7 i8] 27 (0, 0))) = W4 at hbw oA oC oI ltA ltC ltI hA hC hI ⊢
  refine wp_region_M (by kernel_rfl) [11, 12, 32, 33, 34, 35, 36, 37, 38] [none, none, none, none, none, none, none, none, none, none, none, some 11, some 12, none, none, none, none, none, none, none, none, none, none, none, none, none, none, none, none, none, none, none, some 32, some 33, some 34, some 35, some 36, some 37, some 38] (fun U => by kernel_rfl) (fun L U wr => Below w.heap.size w wr ∧ KeepI W4 wr ∧ W4.heap.size ≤ wr.heap.size ∧ Blk 27 wr (w2.heap.size) #[.bool xA, .slice aA nA cA, .bool yA, .slice eA mA fA] ∧ Blk 27 wr (w3.heap.size) #[.bool xC, .slice aC nC cC, .bool yC, .slice eC mC fC] ∧ Blk 27 wr (w4.heap.size) #[.bool i1, .slice i2 i3 i4, .bool i5, .slice i6 i7 i8] ∧ (L 0 = true → IS (.agg #[.bool i1, .slice i2 i3 i4, .bool i5, .slice i6 i7 i8]) (U 33) wr) ∧ (L 1 = true → INT 2 (U 34) wr) ∧ (L 2 = true → RAT ((2 : Int) : Rat) (U 35) wr) ∧ (L 3 = true → T2 (RAT (quoZ (addZ q p) ((2 : Int) : Rat))) (IS (.int .i64 (quoC (addZ q p) ((2 : Int) : Rat)))) (U 36) wr) ∧ (L 4 = true → T2 (RAT (quoZ (addZ q p) ((2 : Int) : Rat))) (IS (.int .i64 (quoC (addZ q p) ((2 : Int) : Rat)))) (U 32) wr) ∧ (L 5 = true → RAT (quoZ (addZ q p) ((2 : Int) : Rat)) (U 37) wr) ∧ (L 6 = true → IS (.int .i64 (quoC (addZ q p) ((2 : Int) : Rat))) (U 38) wr) ∧ (L 7 = true → NEW 27 W4.heap.size wr (U 11) (bif L 8 then U 37 else .agg #[.bool false, .slice none 0 0, .bool false, .slice none 0 0])) ∧ (L 9 = true → IS (.int .i64 (quoC (addZ q p) ((2 : Int) : Rat))) (U 12) wr) ∧ (L 8 = true → L 5 = true) ∧ (L 8 = true → L 7 = true)) (by kernel_rfl) ?_ ?_ ?_
  · exact fun U => ⟨hbw.drew, KeepI.below (Below.refl _ _).drew, Nat.le_refl _, oA.drew, oC.drew, oI.drew, (fun h => by cases h), (fun h => by cases h), (fun h => by cases h), (fun h => by cases h), (fun h => by cases h), (fun h => by cases h), (fun h => by cases h), (fun h => by cases h), (fun h => by cases h), (fun h => by cases h), (fun h => by cases h)⟩
  · refine StepsU.run rfl ?_ ?_
    · intro L U wr hF hlk haf A K hA hK
      have HA : Hid (A = putAll _ _ U) := hA
      clear hA
      simp [Aft, Region.binds] at haf
      obtain ⟨fb, fk, fs, oA, oC, oI, f0, f1, f2, f3, f4, f5, f6, f7, f9, s8, m7⟩ := hF
      have e9 : A.tmps[9]? = some (.pointer (some ⟨w4.heap.size, 0, none⟩)) := by rw [HA.out]; kernel_rfl
      obtain ⟨c0, c1, c2, c3⟩ := oI.four
      refine ⟨?_⟩
      go_simp
      refine hK (upd U 33 (.agg #[.bool i1, .slice i2 i3 i4, .bool i5, .slice i6 i7 i8])) _ _ ?_ ?_
      · rw [HA.out]; kernel_rfl
      · exact ⟨fb, fk, fs, oA, oC, oI, (fun _ => rfl), f1, f2, f3, f4, f5, f6, f7, f9, s8, m7⟩
    refine StepsU.run rfl ?_ ?_
    · intro L U wr hF hlk haf A K hA hK
      have HA : Hid (A = putAll _ _ U) := hA
      clear hA
      simp [Aft, Region.binds] at haf
      obtain ⟨fb, fk, fs, oA, oC, oI, f0, f1, f2, f3, f4, f5, f6, f7, f9, s8, m7⟩ := hF
      refine ⟨?_⟩
      go_simp
      refine (from_any 2 _ (by decide) (by decide)).mono ?_
      rintro e w1 ⟨v34, rfl, hr, hb⟩
      go_simp
      refine hK (upd U 34 v34) _ _ ?_ ?_
      · rw [HA.out]; kernel_rfl
      · exact ⟨(fb.step hb (Nat.le_refl _)), (fk.trans (KeepI.below hb)), (Nat.le_trans fs hb.size), (oA.stay hb), (oC.stay hb), (oI.stay hb), (mv mo_is (KeepI.below hb) f0), (fun _ => hr), (mv mo_rat (KeepI.below hb) f2), (mv (mo_t2 mo_rat mo_is) (KeepI.below hb) f3), (mv (mo_t2 mo_rat mo_is) (KeepI.below hb) f4), (mv mo_rat (KeepI.below hb) f5), (mv mo_is (KeepI.below hb) f6), (fun h => (f7 h).below hb), (mv mo_is (KeepI.below hb) f9), s8, m7⟩
    refine StepsU.run rfl ?_ ?_
    · intro L U wr hF hlk haf A K hA hK
      have HA : Hid (A = putAll _ _ U) := hA
      clear hA
      simp [Aft, Region.binds] at haf
      obtain ⟨fb, fk, fs, oA, oC, oI, f0, f1, f2, f3, f4, f5, f6, f7, f9, s8, m7⟩ := hF
      have g1 := f1 (by simp [haf])
      have e34 := rd HA.out 34 (by kernel_rfl) rfl
      refine ⟨?_⟩
      go_simp
      refine (whole_any _ 2 _ g1).mono ?_
      rintro e w1 ⟨k1, k2, k3, k4, k5, k6, k7, k8, rfl, hr, hb⟩
      go_simp
      refine hK (upd U 35 (.agg #[.bool k1, .slice k2 k3 k4, .bool k5, .slice k6 k7 k8])) _ _ ?_ ?_
      · rw [HA.out]; kernel_rfl
      · exact ⟨(fb.step hb (Nat.le_refl _)), (fk.trans (KeepI.below hb)), (Nat.le_trans fs hb.size), (oA.stay hb), (oC.stay hb), (oI.stay hb), (mv mo_is (KeepI.below hb) f0), (mv mo_int (KeepI.below hb) f1), (fun _ => hr.val), (mv (mo_t2 mo_rat mo_is) (KeepI.below hb) f3), (mv (mo_t2 mo_rat mo_is) (KeepI.below hb) f4), (mv mo_rat (KeepI.below hb) f5), (mv mo_is (KeepI.below hb) f6), (fun h => (f7 h).below hb), (mv mo_is (KeepI.below hb) f9), s8, m7⟩
    refine StepsU.run rfl ?_ ?_
    · intro L U wr hF hlk haf A K hA hK
      have HA : Hid (A = putAll _ _ U) := hA
      clear hA
      simp [Aft, Region.binds] at haf
      obtain ⟨fb, fk, fs, oA, oC, oI, f0, f1, f2, f3, f4, f5, f6, f7, f9, s8, m7⟩ := hF
      have g0 := f0 (by simp [haf])
      have e33 := rd HA.out 33 (by kernel_rfl) g0
      have g2 := f2 (by simp [haf])
      have e35 := rd HA.out 35 (by kernel_rfl) rfl
      refine ⟨?_⟩
      go_simp
      refine (quo_any _ _ (addZ q p) ((2 : Int) : Rat) _ (hI.val.keepI fk) g2).mono ?_
      rintro e w1 ⟨k1, k2, k3, k4, k5, k6, k7, k8, rfl, hr, hb⟩
      go_simp
      refine hK (upd U 36 (.tuple #[.agg #[.bool k1, .slice k2 k3 k4, .bool k5, .slice k6 k7 k8], .int .i64 (quoC (addZ q p) ((2 : Int) : Rat))])) _ _ ?_ ?_
      · rw [HA.out]; kernel_rfl
      · exact ⟨(fb.step hb (Nat.le_refl _)), (fk.trans (KeepI.below hb)), (Nat.le_trans fs hb.size), (oA.stay hb), (oC.stay hb), (oI.stay hb), (mv mo_is (KeepI.below hb) f0), (mv mo_int (KeepI.below hb) f1), (mv mo_rat (KeepI.below hb) f2), (fun _ => ⟨_, _, rfl, hr.val, rfl⟩), (mv (mo_t2 mo_rat mo_is) (KeepI.below hb) f4), (mv mo_rat (KeepI.below hb) f5), (mv mo_is (KeepI.below hb) f6), (fun h => (f7 h).below hb), (mv mo_is (KeepI.below hb) f9), s8, m7⟩
    refine StepsU.run rfl ?_ ?_
    · intro L U wr hF hlk haf A K hA hK
      have HA : Hid (A = putAll _ _ U) := hA
      clear hA
      simp [Aft, Region.binds] at haf
      obtain ⟨fb, fk, fs, oA, oC, oI, f0, f1, f2, f3, f4, f5, f6, f7, f9, s8, m7⟩ := hF
      have g3 := f3 (by simp [haf])
      have e36 := rd HA.out 36 (by kernel_rfl) rfl
      refine ⟨?_⟩
      go_simp
      refine hK (upd U 32 (U 36)) _ _ ?_ ?_
      · rw [HA.out]; kernel_rfl
      · exact ⟨fb, fk, fs, oA, oC, oI, f0, f1, f2, f3, (fun _ => g3), f5, f6, f7, f9, s8, m7⟩
    refine StepsU.run rfl ?_ ?_
    · intro L U wr hF hlk haf A K hA hK
      have HA : Hid (A = putAll _ _ U) := hA
      clear hA
      simp [Aft, Region.binds] at haf
      obtain ⟨fb, fk, fs, oA, oC, oI, f0, f1, f2, f3, f4, f5, f6, f7, f9, s8, m7⟩ := hF
      have g4 := f4 (by simp [haf])
      obtain ⟨t0, t1, hT, k0, k1⟩ := g4
      have e32 := rd HA.out 32 (by kernel_rfl) hT
      refine ⟨?_⟩
      go_simp
      have hs8 : L 8 = false := by cases h : L 8 with | false => rfl | true => rw [s8 h] at hlk; cases hlk
      refine hK (upd U 37 t0) _ _ ?_ ?_
      · rw [HA.out]; kernel_rfl
      · exact ⟨fb, fk, fs, oA, oC, oI, f0, f1, f2, f3, f4, (fun _ => k0), f6, (fun h => flip_v (P := fun v => NEW _ _ _ _ v) hs8 (f7 h)), f9, (fun _ => rfl), m7⟩
    refine StepsU.run rfl ?_ ?_
    · intro L U wr hF hlk haf A K hA hK
      have HA : Hid (A = putAll _ _ U) := hA
      clear hA
      simp [Aft, Region.binds] at haf
      obtain ⟨fb, fk, fs, oA, oC, oI, f0, f1, f2, f3, f4, f5, f6, f7, f9, s8, m7⟩ := hF
      have g4 := f4 (by simp [haf])
      obtain ⟨t0, t1, hT, k0, k1⟩ := g4
      have e32 := rd HA.out 32 (by kernel_rfl) hT
      refine ⟨?_⟩
      go_simp
      refine hK (upd U 38 t1) _ _ ?_ ?_
      · rw [HA.out]; kernel_rfl
      · exact ⟨fb, fk, fs, oA, oC, oI, f0, f1, f2, f3, f4, f5, (fun _ => k1), f7, f9, s8, m7⟩
    refine StepsU.run rfl ?_ ?_
    · intro L U wr hF hlk haf A K hA hK
      have HA : Hid (A = putAll _ _ U) := hA
      clear hA
      simp [Aft, Region.binds] at haf
      obtain ⟨fb, fk, fs, oA, oC, oI, f0, f1, f2, f3, f4, f5, f6, f7, f9, s8, m7⟩ := hF
      have hst : L 8 = false := by cases h : L 8 with | false => rfl | true => rw [m7 h] at hlk; cases hlk
      refine ⟨?_⟩
      go_simp
      have hb := below_new wr (.cells #[.bool false, .slice none 0 0, .bool false, .slice none 0 0] 27 (0, 0))
      refine hK (upd U 11 (.pointer (some ⟨wr.heap.size, 0, none⟩))) _ _ ?_ ?_
      · rw [HA.out]; kernel_rfl
      · exact ⟨(fb.step hb (Nat.le_refl _)), (fk.trans (KeepI.below hb)), (Nat.le_trans fs hb.size), (oA.stay hb), (oC.stay hb), (oI.stay hb), (mv mo_is (KeepI.below hb) f0), (mv mo_int (KeepI.below hb) f1), (mv mo_rat (KeepI.below hb) f2), (mv (mo_t2 mo_rat mo_is) (KeepI.below hb) f3), (mv (mo_t2 mo_rat mo_is) (KeepI.below hb) f4), (mv mo_rat (KeepI.below hb) f5), (mv mo_is (KeepI.below hb) f6), (fun _ => new_zero hst (NEW.mk fs (noI4 _ _ _ _ _ _ _ _))), (mv mo_is (KeepI.below hb) f9), s8, (fun _ => rfl)⟩
    refine StepsU.run rfl ?_ ?_
    · intro L U wr hF hlk haf A K hA hK
      have HA : Hid (A = putAll _ _ U) := hA
      clear hA
      simp [Aft, Region.binds] at haf
      obtain ⟨fb, fk, fs, oA, oC, oI, f0, f1, f2, f3, f4, f5, f6, f7, f9, s8, m7⟩ := hF
      have g5 := f5 (by simp [haf])
      obtain ⟨px, pa, pn, pc, qx, qa, qn, qc, hsrc, -⟩ := g5
      have e37 := rd HA.out 37 (by kernel_rfl) hsrc
      have gA := f7 (by simp [haf])
      simp only [hlk, cond_false] at gA
      obtain ⟨b, cs, hp, hBb, hcs, hblk, -⟩ := gA
      injection hcs with hcs
      subst hcs
      have e11 := rd HA.out 11 (by kernel_rfl) hp
      obtain ⟨c0, c1, c2, c3⟩ := hblk.four
      obtain ⟨q0, q1, q2, q3⟩ := hblk.frozen4
      refine ⟨?_⟩
      go_simp
      have hk := keepI_four (noI_slice _ _ _) (noI_slice _ _ _) hblk px pa pn pc qx qa qn qc
      refine hK U _ _ ?_ ?_
      · exact HA.out
      · exact ⟨(below_store4 fb (Nat.le_trans hbw.size hBb) _ _ _ _), (fk.trans hk), (by simpa using fs), (oA.other4 (Nat.ne_of_gt (Nat.lt_of_lt_of_le ltA hBb)) _ _ _ _), (oC.other4 (Nat.ne_of_gt (Nat.lt_of_lt_of_le ltC hBb)) _ _ _ _), (oI.other4 (Nat.ne_of_gt (Nat.lt_of_lt_of_le ltI hBb)) _ _ _ _), (mv mo_is hk f0), (mv mo_int hk f1), (mv mo_rat hk f2), (mv (mo_t2 mo_rat mo_is) hk f3), (mv (mo_t2 mo_rat mo_is) hk f4), (mv mo_rat hk f5), (mv mo_is hk f6), (fun _ => stored_new hp hsrc (NEW.over4 hBb hblk px pa pn pc qx qa qn qc)), (mv mo_is hk f9), (fun _ => by simp [haf]), (fun _ => by simp [haf])⟩
    refine StepsU.run rfl ?_ StepsU.nil
    · intro L U wr hF hlk haf A K hA hK
      have HA : Hid (A = putAll _ _ U) := hA
      clear hA
      simp [Aft, Region.binds] at haf
      obtain ⟨fb, fk, fs, oA, oC, oI, f0, f1, f2, f3, f4, f5, f6, f7, f9, s8, m7⟩ := hF
      have g6 := f6 (by simp [haf])
      have e38 := rd HA.out 38 (by kernel_rfl) rfl
      refine ⟨?_⟩
      go_simp
      refine hK (upd U 12 (U 38)) _ _ ?_ ?_
      · rw [HA.out]; kernel_rfl
      · exact ⟨fb, fk, fs, oA, oC, oI, f0, f1, f2, f3, f4, f5, f6, f7, (fun _ => g6), s8, m7⟩
  intro L U5 V5 hall hF
  have hbw0 := hbw
  clear hbw
  obtain ⟨hbw, fk, fs, oA, oC, oI, f0, f1, f2, f3, f4, f5, f6, f7, f9, s8, m7⟩ := hF
  clear s8 m7
  have g0 := f0 (hall 0 (by decide))
  have g1 := f1 (hall 1 (by decide))
  have g2 := f2 (hall 2 (by decide))
  have g3 := f3 (hall 3 (by decide))
  have g4 := f4 (hall 4 (by decide))
  have g5 := f5 (hall 5 (by decide))
  have g6 := f6 (hall 6 (by decide))
  have g7 := f7 (hall 7 (by decide))
  rw [hall 8 (by decide), cond_true] at g7
  have g9 := f9 (hall 9 (by decide))
  clear hall f0 f1 f2 f3 f4 f5 f6 f7 f9
  replace hA := hA.keepI fk
  replace hC := hC.keepI fk
  replace hI := hI.keepI fk
  obtain ⟨bJ, csJ, hpJ, lbJ, hcsJ, oJ, -⟩ := g7
  obtain ⟨xJ, aJ, nJ, cJ, yJ, eJ, mJ, fJ, hvJ, hJ⟩ := g5
  rw [hvJ] at hcsJ
  injection hcsJ with hcsJ
  subst hcsJ
  have ltJ := oJ.lt
  have neAJ : w2.heap.size ≠ bJ := Nat.ne_of_lt (Nat.lt_of_lt_of_le ltA lbJ)
  have neCJ : w3.heap.size ≠ bJ := Nat.ne_of_lt (Nat.lt_of_lt_of_le ltC lbJ)
  have neIJ : w4.heap.size ≠ bJ := Nat.ne_of_lt (Nat.lt_of_lt_of_le ltI lbJ)
  have lwJ : w.heap.size ≤ bJ := Nat.le_trans hbw0.size lbJ
  clear lbJ
  replace ltA := Nat.lt_of_lt_of_le ltA fs
  replace ltC := Nat.lt_of_lt_of_le ltC fs
  replace ltI := Nat.lt_of_lt_of_le ltI fs
  clear g0
  clear g1
  clear g2
  clear g3
  clear g4
  clear g6
  clear hbw0
  simp only [setM_some, setM_none, setM_nil]
  rw [hpJ]
  clear hpJ hvJ
  clear fk fs
  have eC : U5 12 = _ := g9
  clear g9
  rw [eC]
  clear eC
  obtain ⟨cq, HCQ⟩ : ∃ c, Hid (quoC (addZ q p) ((2 : Int) : Rat) = c) := ⟨_, rfl⟩
  rw [HCQ.out]
  by_cases h1 : addC q p = 0
  · have E1 : (addC q p != 0) = false := by rw [bne_eq_false_iff_eq]; exact h1
    have H1 : Hid (addC q p = 0) := h1
    clear h1
    by_cases h2 : cq = 0
    · obtain ⟨d, HD, HM⟩ : ∃ d, Hid (quoZ (addZ q p) ((2 : Int) : Rat) = d) ∧ Hid (cmpQ q d = cmpQ q p ∧ cmpQ d p = cmpQ q p) := ⟨_, rfl, mid_facts H1.out (HCQ.out.trans h2)⟩
      rw [HD.out] at hJ
      have E2 : (cq != 0) = false := by rw [bne_eq_false_iff_eq]; exact h2
      clear h2
      obtain ⟨Ac0, Ac1, Ac2, Ac3⟩ := oA.four
      obtain ⟨Aq0, Aq1, Aq2, Aq3⟩ := oA.frozen4
      obtain ⟨Cc0, Cc1, Cc2, Cc3⟩ := oC.four
      obtain ⟨Cq0, Cq1, Cq2, Cq3⟩ := oC.frozen4
      go_wp2_with fail
      refine (qcmp_any _ _ q p _ hA.val hC.val).mono ?_
      rintro e w6 ⟨rfl, hb⟩
      clear Ac0 Ac1 Ac2 Ac3 Aq0 Aq1 Aq2 Aq3
      clear Cc0 Cc1 Cc2 Cc3 Cq0 Cq1 Cq2 Cq3
      replace oA := oA.stay hb
      replace ltA := oA.lt
      replace oC := oC.stay hb
      replace ltC := oC.lt
      replace oI := oI.stay hb
      replace ltI := oI.lt
      replace oJ := oJ.stay hb
      replace ltJ := oJ.lt
      replace hA := hA.below hb
      replace hC := hC.below hb
      replace hI := hI.below hb
      replace hJ := hJ.below hb
      replace hbw := hbw.step hb (Nat.le_refl _)
      clear hb
      obtain ⟨Ac0, Ac1, Ac2, Ac3⟩ := oA.four
      obtain ⟨Aq0, Aq1, Aq2, Aq3⟩ := oA.frozen4
      obtain ⟨Jc0, Jc1, Jc2, Jc3⟩ := oJ.four
      obtain ⟨Jq0, Jq1, Jq2, Jq3⟩ := oJ.frozen4
      go_wp2_with fail
      refine (qcmp_any _ _ q d _ hA.val hJ.val).mono ?_
      rintro e w7 ⟨rfl, hb⟩
      clear Ac0 Ac1 Ac2 Ac3 Aq0 Aq1 Aq2 Aq3
      clear Jc0 Jc1 Jc2 Jc3 Jq0 Jq1 Jq2 Jq3
      replace oA := oA.stay hb
      replace ltA := oA.lt
      replace oC := oC.stay hb
      replace ltC := oC.lt
      replace oI := oI.stay hb
      replace ltI := oI.lt
      replace oJ := oJ.stay hb
      replace ltJ := oJ.lt
      replace hA := hA.below hb
      replace hC := hC.below hb
      replace hI := hI.below hb
      replace hJ := hJ.below hb
      replace hbw := hbw.step hb (Nat.le_refl _)
      clear hb
      have e1 : (cmpQ q d == cmpQ q p) = true := by rw [HM.out.1, beq_iff_eq]
      obtain ⟨Jc0, Jc1, Jc2, Jc3⟩ := oJ.four
      obtain ⟨Jq0, Jq1, Jq2, Jq3⟩ := oJ.frozen4
      obtain ⟨Cc0, Cc1, Cc2, Cc3⟩ := oC.four
      obtain ⟨Cq0, Cq1, Cq2, Cq3⟩ := oC.frozen4
      go_wp2_with fail
      refine (qcmp_any _ _ d p _ hJ.val hC.val).mono ?_
      rintro e w8 ⟨rfl, hb⟩
      clear Jc0 Jc1 Jc2 Jc3 Jq0 Jq1 Jq2 Jq3
      clear Cc0 Cc1 Cc2 Cc3 Cq0 Cq1 Cq2 Cq3
      replace oA := oA.stay hb
      replace ltA := oA.lt
      replace oC := oC.stay hb
      replace ltC := oC.lt
      replace oI := oI.stay hb
      replace ltI := oI.lt
      replace oJ := oJ.stay hb
      replace ltJ := oJ.lt
      replace hA := hA.below hb
      replace hC := hC.below hb
      replace hI := hI.below hb
      replace hJ := hJ.below hb
      replace hbw := hbw.step hb (Nat.le_refl _)
      clear hb
      have e2 : (cmpQ d p == cmpQ q p) = true := by rw [HM.out.2, beq_iff_eq]
      go_wp2
      refine bodyPost_ret (v := (.bool true)) (by simp [results, Try.results6, go_sem]) rfl ?_
      exact ⟨rfl, hbw⟩
    · have E2 : (cq != 0) = true := by rw [bne_iff_ne]; exact h2
      clear h2
      go_wp2
      refine bodyPost_ret (v := (.bool true)) (by simp [results, Try.results6, go_sem]) rfl ?_
      exact ⟨rfl, hbw⟩
  · have E1 : (addC q p != 0) = true := by rw [bne_iff_ne]; exact h1
    clear h1
    go_wp2
    refine bodyPost_ret (v := (.bool true)) (by simp [results, Try.results6, go_sem]) rfl ?_
    exact ⟨rfl, hbw⟩
end Go.Proofs.Ytidpbdhhbeaijab
