/- The statements' helpers awake and rat; no statement of the seat is proved here. -/
import Derived.Test.YtidpbdhhbeaijabJoin14Folds
import Derived.Test.YtidpbdhhbeaijabQ5JFolds
import Derived.Test.YtidpbdhhbeaijabQ6JFolds
import Derived.Test.YtidpbdhhbeaijabR1JFolds
namespace Go.Proofs.Ytidpbdhhbeaijab
open Go.RowKit

/-- The page's example. -/
def q32 : Rat := Rat.divInt 6 (-4)
theorem q32_num : q32.num = -3 := by decide +kernel
theorem q32_den : q32.den = 2 := by decide +kernel
theorem q32_floor : q32.floor = -2 := by rw [← floor_is, q32_num, q32_den]; decide
theorem q32_fits : aFits lim q32 2 := by
  have h := word_lim
  have e1 : (q32.num * aD q32 2).natAbs ≤ 1000 := by decide +kernel
  have e2 : ((2 : Rat).num * aB q32 2).natAbs ≤ 1000 := by decide +kernel
  have e3 : (aT q32 2).natAbs ≤ 1000 := by decide +kernel
  have e4 : (aB q32 2 * aK q32 2).natAbs ≤ 1000 := by decide +kernel
  exact ⟨by omega, by omega, by omega, by omega⟩
theorem q12_num : (q32 + 2).num = 1 := by rw [(add_parts q32 2).1]; decide +kernel
theorem q12_den : (q32 + 2).den = 2 := by
  have h := (add_parts q32 2).2
  have e : aB q32 2 * aK q32 2 = 2 := by decide +kernel
  rw [e] at h
  omega
theorem tx_m3 : TextOf ⟨#[45, 51]⟩ (-3) := ⟨true, [3], rfl, digs1 3 (by decide), fun h => by simp at h, by decide, rfl⟩
theorem tx_m2 : TextOf ⟨#[45, 50]⟩ (-2) := ⟨true, [2], rfl, digs1 2 (by decide), fun h => by simp at h, by decide, rfl⟩
theorem tx_2 : TextOf ⟨#[50]⟩ 2 := ⟨false, [2], rfl, digs1 2 (by decide), fun h => by simp at h, by decide, rfl⟩
theorem txq_32 {S : ByteArray} (h : TextQ S q32) : (S.toList == [45, 51, 47, 50]) = true := by
  have k : TextQ ⟨#[45, 51, 47, 50]⟩ q32 := Or.inr ⟨by rw [q32_den]; decide, _, _, by rw [q32_num]; exact tx_m3, by rw [q32_den]; exact tx_2, rfl⟩
  rw [h.same k, ByteArray.toList_mk]; rfl
theorem txq_12 {S : ByteArray} (h : TextQ S (q32 + 2)) : (S.toList == [49, 47, 50]) = true := by
  have k : TextQ ⟨#[49, 47, 50]⟩ (q32 + 2) := Or.inr ⟨by rw [q12_den]; decide, _, _, by rw [q12_num]; exact tx_1, by rw [q12_den]; exact tx_2, rfl⟩
  rw [h.same k, ByteArray.toList_mk]; rfl
theorem tx_is2 {S : ByteArray} (h : TextOf S (-2)) : (S.toList == [45, 50]) = true := by
  rw [h.same tx_m2, ByteArray.toList_mk]; rfl

set_option maxRecDepth 20000 in
set_option maxHeartbeats 8000000 in
theorem awake2_any (w : World) : Calls Try.prog 8 #[] w fun e w' => e = .returned (.bool true) ∧ Below w.heap.size w w' := by
  have hbw := Below.refl w.heap.size w
  go_enter Try.func8, Try.ntmps8
  go_wp2_with fail
  refine (from_any 6 _ (by decide) (by decide)).mono ?_
  rintro e w1 ⟨v1, rfl, h1, hb⟩
  replace hbw := hbw.step hb (Nat.le_refl _)
  clear hb
  go_wp2_with fail
  refine (from_any (-4) _ (by decide) (by decide)).mono ?_
  rintro e w2 ⟨v2, rfl, h2, hb⟩
  replace h1 := h1.below hb
  replace hbw := hbw.step hb (Nat.le_refl _)
  clear hb
  go_wp2_with fail
  refine (of_any _ _ 6 (-4) _ h1 h2).mono ?_
  rintro e w3 ⟨xX, aX, nX, cX, yX, eX, mX, fX, rfl, hX, hb⟩
  replace h1 := h1.below hb
  replace h2 := h2.below hb
  replace hbw := hbw.step hb (Nat.le_refl _)
  clear hb
  clear h1 h2
  have ec0 : qc0 (-4) = 0 := by decide
  rw [ec0]
  clear ec0
  rw [show Rat.divInt 6 (-4) = q32 from rfl] at hX
  have hn := below_new w3 (.cells #[.bool xX, .slice aX nX cX, .bool yX, .slice eX mX fX] 27 (0, 0))
  have oX := Blk.new w3 27 #[.bool xX, .slice aX nX cX, .bool yX, .slice eX mX fX]
  have lwX : w.heap.size ≤ w3.heap.size := hbw.size
  replace hX := hX.below hn
  replace hbw := hbw.step hn (Nat.le_refl _)
  clear hn
  have ltX := oX.lt
  go_wp2
  generalize (w3.alloc (.cells #[.bool xX, .slice aX nX cX, .bool yX, .slice eX mX fX] 27 (0, 0))) = W3 at hbw oX ltX hX ⊢
  refine wp_region_M (by kernel_rfl) [3, 4, 11, 12, 13, 14, 15, 16, 17] [none, none, none, some 3, some 4, none, none, none, none, none, none, some 11, some 12, some 13, some 14, some 15, some 16, some 17] (fun U => by kernel_rfl) (fun L U wr => Below w.heap.size w wr ∧ KeepI W3 wr ∧ W3.heap.size ≤ wr.heap.size ∧ Blk 27 wr (w3.heap.size) #[.bool xX, .slice aX nX cX, .bool yX, .slice eX mX fX] ∧ (L 0 = true → IS (.agg #[.bool xX, .slice aX nX cX, .bool yX, .slice eX mX fX]) (U 12) wr) ∧ (L 1 = true → INT 2 (U 13) wr) ∧ (L 2 = true → RAT ((2 : Int) : Rat) (U 14) wr) ∧ (L 3 = true → T2 (RAT (addZ q32 ((2 : Int) : Rat))) (IS (.int .i64 (addC q32 ((2 : Int) : Rat)))) (U 15) wr) ∧ (L 4 = true → T2 (RAT (addZ q32 ((2 : Int) : Rat))) (IS (.int .i64 (addC q32 ((2 : Int) : Rat)))) (U 11) wr) ∧ (L 5 = true → RAT (addZ q32 ((2 : Int) : Rat)) (U 16) wr) ∧ (L 6 = true → IS (.int .i64 (addC q32 ((2 : Int) : Rat))) (U 17) wr) ∧ (L 7 = true → NEW 27 W3.heap.size wr (U 3) (bif L 8 then U 16 else .agg #[.bool false, .slice none 0 0, .bool false, .slice none 0 0])) ∧ (L 9 = true → IS (.int .i64 (addC q32 ((2 : Int) : Rat))) (U 4) wr) ∧ (L 8 = true → L 5 = true) ∧ (L 8 = true → L 7 = true)) (by kernel_rfl) ?_ ?_ ?_
  · exact fun U => ⟨hbw.drew, KeepI.below (Below.refl _ _).drew, Nat.le_refl _, oX.drew, (fun h => by cases h), (fun h => by cases h), (fun h => by cases h), (fun h => by cases h), (fun h => by cases h), (fun h => by cases h), (fun h => by cases h), (fun h => by cases h), (fun h => by cases h), (fun h => by cases h), (fun h => by cases h)⟩
  · refine StepsU.run rfl ?_ ?_
    · intro L U wr hF hlk haf A K hA hK
      have HA : Hid (A = putAll _ _ U) := hA
      clear hA
      simp [Aft, Region.binds] at haf
      obtain ⟨fb, fk, fs, oX, f0, f1, f2, f3, f4, f5, f6, f7, f9, s8, m7⟩ := hF
      have e1 : A.tmps[1]? = some (.pointer (some ⟨w3.heap.size, 0, none⟩)) := by rw [HA.out]; kernel_rfl
      obtain ⟨c0, c1, c2, c3⟩ := oX.four
      refine ⟨?_⟩
      go_simp
      refine hK (upd U 12 (.agg #[.bool xX, .slice aX nX cX, .bool yX, .slice eX mX fX])) _ _ ?_ ?_
      · rw [HA.out]; kernel_rfl
      · exact ⟨fb, fk, fs, oX, (fun _ => rfl), f1, f2, f3, f4, f5, f6, f7, f9, s8, m7⟩
    refine StepsU.run rfl ?_ ?_
    · intro L U wr hF hlk haf A K hA hK
      have HA : Hid (A = putAll _ _ U) := hA
      clear hA
      simp [Aft, Region.binds] at haf
      obtain ⟨fb, fk, fs, oX, f0, f1, f2, f3, f4, f5, f6, f7, f9, s8, m7⟩ := hF
      refine ⟨?_⟩
      go_simp
      refine (from_any 2 _ (by decide) (by decide)).mono ?_
      rintro e w1 ⟨v13, rfl, hr, hb⟩
      go_simp
      refine hK (upd U 13 v13) _ _ ?_ ?_
      · rw [HA.out]; kernel_rfl
      · exact ⟨(fb.step hb (Nat.le_refl _)), (fk.trans (KeepI.below hb)), (Nat.le_trans fs hb.size), (oX.stay hb), (mv mo_is (KeepI.below hb) f0), (fun _ => hr), (mv mo_rat (KeepI.below hb) f2), (mv (mo_t2 mo_rat mo_is) (KeepI.below hb) f3), (mv (mo_t2 mo_rat mo_is) (KeepI.below hb) f4), (mv mo_rat (KeepI.below hb) f5), (mv mo_is (KeepI.below hb) f6), (fun h => (f7 h).below hb), (mv mo_is (KeepI.below hb) f9), s8, m7⟩
    refine StepsU.run rfl ?_ ?_
    · intro L U wr hF hlk haf A K hA hK
      have HA : Hid (A = putAll _ _ U) := hA
      clear hA
      simp [Aft, Region.binds] at haf
      obtain ⟨fb, fk, fs, oX, f0, f1, f2, f3, f4, f5, f6, f7, f9, s8, m7⟩ := hF
      have g1 := f1 (by simp [haf])
      have e13 := rd HA.out 13 (by kernel_rfl) rfl
      refine ⟨?_⟩
      go_simp
      refine (whole_any _ 2 _ g1).mono ?_
      rintro e w1 ⟨j1, j2, j3, j4, j5, j6, j7, j8, rfl, hr, hb⟩
      go_simp
      refine hK (upd U 14 (.agg #[.bool j1, .slice j2 j3 j4, .bool j5, .slice j6 j7 j8])) _ _ ?_ ?_
      · rw [HA.out]; kernel_rfl
      · exact ⟨(fb.step hb (Nat.le_refl _)), (fk.trans (KeepI.below hb)), (Nat.le_trans fs hb.size), (oX.stay hb), (mv mo_is (KeepI.below hb) f0), (mv mo_int (KeepI.below hb) f1), (fun _ => hr.val), (mv (mo_t2 mo_rat mo_is) (KeepI.below hb) f3), (mv (mo_t2 mo_rat mo_is) (KeepI.below hb) f4), (mv mo_rat (KeepI.below hb) f5), (mv mo_is (KeepI.below hb) f6), (fun h => (f7 h).below hb), (mv mo_is (KeepI.below hb) f9), s8, m7⟩
    refine StepsU.run rfl ?_ ?_
    · intro L U wr hF hlk haf A K hA hK
      have HA : Hid (A = putAll _ _ U) := hA
      clear hA
      simp [Aft, Region.binds] at haf
      obtain ⟨fb, fk, fs, oX, f0, f1, f2, f3, f4, f5, f6, f7, f9, s8, m7⟩ := hF
      have g0 := f0 (by simp [haf])
      have e12 := rd HA.out 12 (by kernel_rfl) g0
      have g2 := f2 (by simp [haf])
      have e14 := rd HA.out 14 (by kernel_rfl) rfl
      refine ⟨?_⟩
      go_simp
      refine (qadd_any _ _ q32 ((2 : Int) : Rat) _ (hX.val.keepI fk) g2).mono ?_
      rintro e w1 ⟨j1, j2, j3, j4, j5, j6, j7, j8, rfl, hr, hb⟩
      go_simp
      refine hK (upd U 15 (.tuple #[.agg #[.bool j1, .slice j2 j3 j4, .bool j5, .slice j6 j7 j8], .int .i64 (addC q32 ((2 : Int) : Rat))])) _ _ ?_ ?_
      · rw [HA.out]; kernel_rfl
      · exact ⟨(fb.step hb (Nat.le_refl _)), (fk.trans (KeepI.below hb)), (Nat.le_trans fs hb.size), (oX.stay hb), (mv mo_is (KeepI.below hb) f0), (mv mo_int (KeepI.below hb) f1), (mv mo_rat (KeepI.below hb) f2), (fun _ => ⟨_, _, rfl, hr.val, rfl⟩), (mv (mo_t2 mo_rat mo_is) (KeepI.below hb) f4), (mv mo_rat (KeepI.below hb) f5), (mv mo_is (KeepI.below hb) f6), (fun h => (f7 h).below hb), (mv mo_is (KeepI.below hb) f9), s8, m7⟩
    refine StepsU.run rfl ?_ ?_
    · intro L U wr hF hlk haf A K hA hK
      have HA : Hid (A = putAll _ _ U) := hA
      clear hA
      simp [Aft, Region.binds] at haf
      obtain ⟨fb, fk, fs, oX, f0, f1, f2, f3, f4, f5, f6, f7, f9, s8, m7⟩ := hF
      have g3 := f3 (by simp [haf])
      have e15 := rd HA.out 15 (by kernel_rfl) rfl
      refine ⟨?_⟩
      go_simp
      refine hK (upd U 11 (U 15)) _ _ ?_ ?_
      · rw [HA.out]; kernel_rfl
      · exact ⟨fb, fk, fs, oX, f0, f1, f2, f3, (fun _ => g3), f5, f6, f7, f9, s8, m7⟩
    refine StepsU.run rfl ?_ ?_
    · intro L U wr hF hlk haf A K hA hK
      have HA : Hid (A = putAll _ _ U) := hA
      clear hA
      simp [Aft, Region.binds] at haf
      obtain ⟨fb, fk, fs, oX, f0, f1, f2, f3, f4, f5, f6, f7, f9, s8, m7⟩ := hF
      have g4 := f4 (by simp [haf])
      obtain ⟨t0, t1, hT, k0, k1⟩ := g4
      have e11 := rd HA.out 11 (by kernel_rfl) hT
      refine ⟨?_⟩
      go_simp
      have hs8 : L 8 = false := by cases h : L 8 with | false => rfl | true => rw [s8 h] at hlk; cases hlk
      refine hK (upd U 16 t0) _ _ ?_ ?_
      · rw [HA.out]; kernel_rfl
      · exact ⟨fb, fk, fs, oX, f0, f1, f2, f3, f4, (fun _ => k0), f6, (fun h => flip_v (P := fun v => NEW _ _ _ _ v) hs8 (f7 h)), f9, (fun _ => rfl), m7⟩
    refine StepsU.run rfl ?_ ?_
    · intro L U wr hF hlk haf A K hA hK
      have HA : Hid (A = putAll _ _ U) := hA
      clear hA
      simp [Aft, Region.binds] at haf
      obtain ⟨fb, fk, fs, oX, f0, f1, f2, f3, f4, f5, f6, f7, f9, s8, m7⟩ := hF
      have g4 := f4 (by simp [haf])
      obtain ⟨t0, t1, hT, k0, k1⟩ := g4
      have e11 := rd HA.out 11 (by kernel_rfl) hT
      refine ⟨?_⟩
      go_simp
      refine hK (upd U 17 t1) _ _ ?_ ?_
      · rw [HA.out]; kernel_rfl
      · exact ⟨fb, fk, fs, oX, f0, f1, f2, f3, f4, f5, (fun _ => k1), f7, f9, s8, m7⟩
    refine StepsU.run rfl ?_ ?_
    · intro L U wr hF hlk haf A K hA hK
      have HA : Hid (A = putAll _ _ U) := hA
      clear hA
      simp [Aft, Region.binds] at haf
      obtain ⟨fb, fk, fs, oX, f0, f1, f2, f3, f4, f5, f6, f7, f9, s8, m7⟩ := hF
      have hst : L 8 = false := by cases h : L 8 with | false => rfl | true => rw [m7 h] at hlk; cases hlk
      refine ⟨?_⟩
      go_simp
      have hb := below_new wr (.cells #[.bool false, .slice none 0 0, .bool false, .slice none 0 0] 27 (0, 0))
      refine hK (upd U 3 (.pointer (some ⟨wr.heap.size, 0, none⟩))) _ _ ?_ ?_
      · rw [HA.out]; kernel_rfl
      · exact ⟨(fb.step hb (Nat.le_refl _)), (fk.trans (KeepI.below hb)), (Nat.le_trans fs hb.size), (oX.stay hb), (mv mo_is (KeepI.below hb) f0), (mv mo_int (KeepI.below hb) f1), (mv mo_rat (KeepI.below hb) f2), (mv (mo_t2 mo_rat mo_is) (KeepI.below hb) f3), (mv (mo_t2 mo_rat mo_is) (KeepI.below hb) f4), (mv mo_rat (KeepI.below hb) f5), (mv mo_is (KeepI.below hb) f6), (fun _ => new_zero hst (NEW.mk fs (noI4 _ _ _ _ _ _ _ _))), (mv mo_is (KeepI.below hb) f9), s8, (fun _ => rfl)⟩
    refine StepsU.run rfl ?_ ?_
    · intro L U wr hF hlk haf A K hA hK
      have HA : Hid (A = putAll _ _ U) := hA
      clear hA
      simp [Aft, Region.binds] at haf
      obtain ⟨fb, fk, fs, oX, f0, f1, f2, f3, f4, f5, f6, f7, f9, s8, m7⟩ := hF
      have g5 := f5 (by simp [haf])
      obtain ⟨px, pa, pn, pc, qx, qa, qn, qc, hsrc, -⟩ := g5
      have e16 := rd HA.out 16 (by kernel_rfl) hsrc
      have gA := f7 (by simp [haf])
      simp only [hlk, cond_false] at gA
      obtain ⟨b, cs, hp, hBb, hcs, hblk, -⟩ := gA
      injection hcs with hcs
      subst hcs
      have e3 := rd HA.out 3 (by kernel_rfl) hp
      obtain ⟨c0, c1, c2, c3⟩ := hblk.four
      obtain ⟨q0, q1, q2, q3⟩ := hblk.frozen4
      refine ⟨?_⟩
      go_simp
      have hk := keepI_four (noI_slice _ _ _) (noI_slice _ _ _) hblk px pa pn pc qx qa qn qc
      refine hK U _ _ ?_ ?_
      · exact HA.out
      · exact ⟨(below_store4 fb (Nat.le_trans hbw.size hBb) _ _ _ _), (fk.trans hk), (by simpa using fs), (oX.other4 (Nat.ne_of_gt (Nat.lt_of_lt_of_le ltX hBb)) _ _ _ _), (mv mo_is hk f0), (mv mo_int hk f1), (mv mo_rat hk f2), (mv (mo_t2 mo_rat mo_is) hk f3), (mv (mo_t2 mo_rat mo_is) hk f4), (mv mo_rat hk f5), (mv mo_is hk f6), (fun _ => stored_new hp hsrc (NEW.over4 hBb hblk px pa pn pc qx qa qn qc)), (mv mo_is hk f9), (fun _ => by simp [haf]), (fun _ => by simp [haf])⟩
    refine StepsU.run rfl ?_ StepsU.nil
    · intro L U wr hF hlk haf A K hA hK
      have HA : Hid (A = putAll _ _ U) := hA
      clear hA
      simp [Aft, Region.binds] at haf
      obtain ⟨fb, fk, fs, oX, f0, f1, f2, f3, f4, f5, f6, f7, f9, s8, m7⟩ := hF
      have g6 := f6 (by simp [haf])
      have e17 := rd HA.out 17 (by kernel_rfl) rfl
      refine ⟨?_⟩
      go_simp
      refine hK (upd U 4 (U 17)) _ _ ?_ ?_
      · rw [HA.out]; kernel_rfl
      · exact ⟨fb, fk, fs, oX, f0, f1, f2, f3, f4, f5, f6, f7, (fun _ => g6), s8, m7⟩
  intro L U4 V4 hall hF
  have hbw0 := hbw
  clear hbw
  obtain ⟨hbw, fk, fs, oX, f0, f1, f2, f3, f4, f5, f6, f7, f9, s8, m7⟩ := hF
  clear s8 m7
  have g0 := f0 (hall 0 (by decide))
  have g1 := f1 (hall 1 (by decide))
  have g2 := f2 (hall 2 (by decide))
  have g3 := f3 (hall 3 (by decide))
  have g4 := f4 (hall 4 (by decide))
  have g5 := f5 (hall 5 (by decide))
  have g6 := f6 (hall 6 (by decide))
  have g7 := f7 (hall 7 (by decide))
  rw [hall 8 (by decide), cond_true] at g7
  have g9 := f9 (hall 9 (by decide))
  clear hall f0 f1 f2 f3 f4 f5 f6 f7 f9
  replace hX := hX.keepI fk
  obtain ⟨bY, csY, hpY, lbY, hcsY, oY, -⟩ := g7
  obtain ⟨xY, aY, nY, cY, yY, eY, mY, fY, hvY, hY⟩ := g5
  rw [hvY] at hcsY
  injection hcsY with hcsY
  subst hcsY
  have ltY := oY.lt
  have neXY : w3.heap.size ≠ bY := Nat.ne_of_lt (Nat.lt_of_lt_of_le ltX lbY)
  have lwY : w.heap.size ≤ bY := Nat.le_trans hbw0.size lbY
  clear lbY
  replace ltX := Nat.lt_of_lt_of_le ltX fs
  clear g0
  clear g1
  clear g2
  clear g3
  clear g4
  clear g6
  clear hbw0
  simp only [setM_some, setM_none, setM_nil]
  rw [hpY]
  clear hpY hvY
  clear fk fs
  have eC : U4 4 = _ := g9
  clear g9
  rw [eC]
  clear eC
  have eA : addC q32 ((2 : Int) : Rat) = 0 := addC_yes q32_fits
  have eZ : addZ q32 ((2 : Int) : Rat) = q32 + 2 := addZ_yes q32_fits
  rw [eA]
  rw [eZ] at hY
  clear eA eZ
  obtain ⟨Xc0, Xc1, Xc2, Xc3⟩ := oX.four
  obtain ⟨Xq0, Xq1, Xq2, Xq3⟩ := oX.frozen4
  go_wp2_with fail
  refine (qtext_any _ q32 _ hX.val).mono ?_
  rintro e w5 ⟨S1, rfl, hS1, hb⟩
  clear Xc0 Xc1 Xc2 Xc3 Xq0 Xq1 Xq2 Xq3
  replace oX := oX.stay hb
  replace ltX := oX.lt
  replace oY := oY.stay hb
  replace ltY := oY.lt
  replace hX := hX.below hb
  replace hY := hY.below hb
  replace hbw := hbw.step hb (Nat.le_refl _)
  clear hb
  have t1 := txq_32 hS1
  obtain ⟨Yc0, Yc1, Yc2, Yc3⟩ := oY.four
  obtain ⟨Yq0, Yq1, Yq2, Yq3⟩ := oY.frozen4
  go_wp2_with fail
  refine (qtext_any _ (q32 + 2) _ hY.val).mono ?_
  rintro e w6 ⟨S2, rfl, hS2, hb⟩
  clear Yc0 Yc1 Yc2 Yc3 Yq0 Yq1 Yq2 Yq3
  replace oX := oX.stay hb
  replace ltX := oX.lt
  replace oY := oY.stay hb
  replace ltY := oY.lt
  replace hX := hX.below hb
  replace hY := hY.below hb
  replace hbw := hbw.step hb (Nat.le_refl _)
  clear hb
  have t2 := txq_12 hS2
  obtain ⟨Xc0, Xc1, Xc2, Xc3⟩ := oX.four
  obtain ⟨Xq0, Xq1, Xq2, Xq3⟩ := oX.frozen4
  go_wp2_with fail
  refine (floor_any _ q32 (-2) _ hX.val q32_floor).mono ?_
  rintro e w7 ⟨u1, u2, u3, u4, rfl, hF, hb⟩
  clear Xc0 Xc1 Xc2 Xc3 Xq0 Xq1 Xq2 Xq3
  replace oX := oX.stay hb
  replace ltX := oX.lt
  replace oY := oY.stay hb
  replace ltY := oY.lt
  replace hX := hX.below hb
  replace hY := hY.below hb
  replace hbw := hbw.step hb (Nat.le_refl _)
  clear hb
  go_wp2_with fail
  refine (text_a _ (-2) _ hF).mono ?_
  rintro e w8 ⟨S3, rfl, hS3, hb⟩
  replace oX := oX.stay hb
  replace ltX := oX.lt
  replace oY := oY.stay hb
  replace ltY := oY.lt
  replace hX := hX.below hb
  replace hY := hY.below hb
  replace hF := hF.below hb
  replace hbw := hbw.step hb (Nat.le_refl _)
  clear hb
  have t3 := tx_is2 hS3
  go_wp2
  refine bodyPost_ret (v := (.bool true)) (by simp [results, Try.results8, go_sem]) rfl ?_
  exact ⟨rfl, hbw⟩

set_option maxRecDepth 20000 in
set_option maxHeartbeats 8000000 in
theorem rat_any (s : ByteArray) (w : World) (hs : s.size ≤ maxLen) :
    Calls Try.prog 9 #[.string s] w fun e w' => ∃ q x1 a1 n1 c1 y1 e1 m1 f1 x2 a2 n2 c2 y2 e2 m2 f2, e = .returned (.tuple #[.agg #[.bool x1, .slice a1 n1 c1, .bool y1, .slice e1 m1 f1], .agg #[.bool x2, .slice a2 n2 c2, .bool y2, .slice e2 m2 f2]]) ∧ QP w' x1 a1 n1 c1 y1 e1 m1 f1 q ∧ QRP w' x2 a2 n2 c2 y2 e2 m2 f2 q 400 ∧ Below w.heap.size w w' := by
  unfold maxLen at hs
  have oR := ((Blk.new w 27 #[.bool false, .slice none 0 0, .bool false, .slice none 0 0]).alloc (.cells #[.bool false, .slice none 0 0, .bool false, .slice none 0 0] 32 (0, 0)))
  have oS := (Blk.new (w.alloc (.cells #[.bool false, .slice none 0 0, .bool false, .slice none 0 0] 27 (0, 0))) 32 #[.bool false, .slice none 0 0, .bool false, .slice none 0 0])
  simp only [World.size_alloc] at oS
  have hbw : Below w.heap.size w ((w.alloc (.cells #[.bool false, .slice none 0 0, .bool false, .slice none 0 0] 27 (0, 0))).alloc (.cells #[.bool false, .slice none 0 0, .bool false, .slice none 0 0] 32 (0, 0))) := by go_grown
  have ltR := oR.lt
  have ltS := oS.lt
  go_enter Try.func9, Try.ntmps9
  by_cases h7 : 700 < s.size
  · have HT : Hid ((s.extract 0 700).size ≤ 700) := by
      show _ ≤ _
      rw [← bs_length, bs_extract, List.drop_zero, List.length_take]
      exact Nat.min_le_left _ _
    go_wp2_with fail
    refine (parseq_any (s.extract 0 700) _ (by have := HT.out; omega)).mono ?_
    rintro e w1 ⟨xX, aX, nX, cX, yX, eX, mX, fX, co1, q1, rfl, hX, HP1, hb⟩
    replace oR := oR.stay hb
    replace ltR := oR.lt
    replace oS := oS.stay hb
    replace ltS := oS.lt
    replace hbw := hbw.step hb (Nat.le_refl _)
    clear hb
    have hn := below_new w1 (.cells #[.bool xX, .slice aX nX cX, .bool yX, .slice eX mX fX] 27 (0, 0))
    have oX := Blk.new w1 27 #[.bool xX, .slice aX nX cX, .bool yX, .slice eX mX fX]
    have neRX : w.heap.size ≠ w1.heap.size := Nat.ne_of_lt ltR
    have neSX : w.heap.size + 1 ≠ w1.heap.size := Nat.ne_of_lt ltS
    have lwX : w.heap.size ≤ w1.heap.size := hbw.size
    replace oR := oR.stay hn
    replace ltR := oR.lt
    replace oS := oS.stay hn
    replace ltS := oS.lt
    replace hX := hX.below hn
    replace hbw := hbw.step hn (Nat.le_refl _)
    clear hn
    have ltX := oX.lt
    go_wp2_with fail
    refine (rparseq_any (s.extract 0 700) _ (by have := HT.out; omega)).mono ?_
    rintro e w2 ⟨xY, aY, nY, cY, yY, eY, mY, fY, co2, q2, rfl, hY, HP2, hb⟩
    replace oR := oR.stay hb
    replace ltR := oR.lt
    replace oS := oS.stay hb
    replace ltS := oS.lt
    replace oX := oX.stay hb
    replace ltX := oX.lt
    replace hX := hX.below hb
    replace hbw := hbw.step hb (Nat.le_refl _)
    clear hb
    have hn := below_new w2 (.cells #[.bool xY, .slice aY nY cY, .bool yY, .slice eY mY fY] 32 (0, 0))
    have oY := Blk.new w2 32 #[.bool xY, .slice aY nY cY, .bool yY, .slice eY mY fY]
    have neRY : w.heap.size ≠ w2.heap.size := Nat.ne_of_lt ltR
    have neSY : w.heap.size + 1 ≠ w2.heap.size := Nat.ne_of_lt ltS
    have neXY : w1.heap.size ≠ w2.heap.size := Nat.ne_of_lt ltX
    have lwY : w.heap.size ≤ w2.heap.size := hbw.size
    replace oR := oR.stay hn
    replace ltR := oR.lt
    replace oS := oS.stay hn
    replace ltS := oS.lt
    replace oX := oX.stay hn
    replace ltX := oX.lt
    replace hX := hX.below hn
    replace hY := hY.below hn
    replace hbw := hbw.step hn (Nat.le_refl _)
    clear hn
    have ltY := oY.lt
    obtain ⟨rfl, rfl⟩ := HP1.out.same HP2.out
    go_wp2
    generalize (w2.alloc (.cells #[.bool xY, .slice aY nY cY, .bool yY, .slice eY mY fY] 32 (0, 0))) = W2 at hbw oR oS oX oY ltR ltS ltX ltY hX hY ⊢
    have rR := oR
    clear oR
    have geR : w.heap.size ≤ w.heap.size := by omega
    have neRS : w.heap.size ≠ w.heap.size + 1 := by omega
    have rS := oS
    clear oS
    have geS : w.heap.size ≤ w.heap.size + 1 := by omega
    have neSR := neRS.symm
    refine wp_region_M (by kernel_rfl) [23, 24] [none, none, none, none, none, none, none, none, none, none, none, none, none, none, none, none, none, none, none, none, none, none, none, some 23, some 24] (fun U => by kernel_rfl) (fun L U wr => Below w.heap.size w wr ∧ KeepI W2 wr ∧ W2.heap.size ≤ wr.heap.size ∧ Blk 27 wr (w1.heap.size) #[.bool xX, .slice aX nX cX, .bool yX, .slice eX mX fX] ∧ Blk 32 wr (w2.heap.size) #[.bool xY, .slice aY nY cY, .bool yY, .slice eY mY fY] ∧ BlkV 27 wr (w.heap.size) (bif L 2 then U 23 else .agg #[.bool false, .slice none 0 0, .bool false, .slice none 0 0]) ∧ BlkV 32 wr (w.heap.size + 1) (bif L 3 then U 24 else .agg #[.bool false, .slice none 0 0, .bool false, .slice none 0 0]) ∧ (L 0 = true → IS (.agg #[.bool xX, .slice aX nX cX, .bool yX, .slice eX mX fX]) (U 23) wr) ∧ (L 1 = true → IS (.agg #[.bool xY, .slice aY nY cY, .bool yY, .slice eY mY fY]) (U 24) wr) ∧ (L 2 = true → L 0 = true) ∧ (L 3 = true → L 1 = true)) (by kernel_rfl) ?_ ?_ ?_
    · exact fun U => ⟨hbw.drew, KeepI.below (Below.refl _ _).drew, Nat.le_refl _, oX.drew, oY.drew, ⟨_, rfl, rR.drew⟩, ⟨_, rfl, rS.drew⟩, (fun h => by cases h), (fun h => by cases h), (fun h => by cases h), (fun h => by cases h)⟩
    · refine StepsU.run rfl ?_ ?_
      · intro L U wr hF hlk haf A K hA hK
        have HA : Hid (A = putAll _ _ U) := hA
        clear hA
        simp [Aft, Region.binds] at haf
        obtain ⟨fb, fk, fs, oX, oY, rR, rS, f0, f1, s2, s3⟩ := hF
        have e4 : A.tmps[4]? = some (.pointer (some ⟨w1.heap.size, 0, none⟩)) := by rw [HA.out]; kernel_rfl
        obtain ⟨c0, c1, c2, c3⟩ := oX.four
        refine ⟨?_⟩
        go_simp
        have hs2 : L 2 = false := by cases h : L 2 with | false => rfl | true => rw [s2 h] at hlk; cases hlk
        refine hK (upd U 23 (.agg #[.bool xX, .slice aX nX cX, .bool yX, .slice eX mX fX])) _ _ ?_ ?_
        · rw [HA.out]; kernel_rfl
        · exact ⟨fb, fk, fs, oX, oY, (flip_v (P := fun v => BlkV _ _ _ v) hs2 rR), rS, (fun _ => rfl), f1, (fun _ => rfl), s3⟩
      refine StepsU.run rfl ?_ ?_
      · intro L U wr hF hlk haf A K hA hK
        have HA : Hid (A = putAll _ _ U) := hA
        clear hA
        simp [Aft, Region.binds] at haf
        obtain ⟨fb, fk, fs, oX, oY, rR, rS, f0, f1, s2, s3⟩ := hF
        have e6 : A.tmps[6]? = some (.pointer (some ⟨w2.heap.size, 0, none⟩)) := by rw [HA.out]; kernel_rfl
        obtain ⟨c0, c1, c2, c3⟩ := oY.four
        refine ⟨?_⟩
        go_simp
        have hs3 : L 3 = false := by cases h : L 3 with | false => rfl | true => rw [s3 h] at hlk; cases hlk
        refine hK (upd U 24 (.agg #[.bool xY, .slice aY nY cY, .bool yY, .slice eY mY fY])) _ _ ?_ ?_
        · rw [HA.out]; kernel_rfl
        · exact ⟨fb, fk, fs, oX, oY, rR, (flip_v (P := fun v => BlkV _ _ _ v) hs3 rS), f0, (fun _ => rfl), s2, (fun _ => rfl)⟩
      refine StepsU.run rfl ?_ ?_
      · intro L U wr hF hlk haf A K hA hK
        have HA : Hid (A = putAll _ _ U) := hA
        clear hA
        simp [Aft, Region.binds] at haf
        obtain ⟨fb, fk, fs, oX, oY, rR, rS, f0, f1, s2, s3⟩ := hF
        have g0 := f0 (by simp [haf])
        have hsrc := g0
        have e23 := rd HA.out 23 (by kernel_rfl) hsrc
        have e2 : A.tmps[2]? = some (.pointer (some ⟨w.heap.size, 0, none⟩)) := by rw [HA.out]; kernel_rfl
        simp only [hlk, cond_false] at rR
        obtain ⟨cs, hcs, hblk⟩ := rR
        injection hcs with hcs
        subst hcs
        obtain ⟨c0, c1, c2, c3⟩ := hblk.four
        obtain ⟨q0, q1, q2, q3⟩ := hblk.frozen4
        refine ⟨?_⟩
        go_simp
        have hk := keepI_four (noI_slice _ _ _) (noI_slice _ _ _) hblk xX aX nX cX yX eX mX fX
        refine hK U _ _ ?_ ?_
        · exact HA.out
        · exact ⟨(below_store4 fb geR _ _ _ _), (fk.trans hk), (by simpa using fs), (oX.other4 neRX _ _ _ _), (oY.other4 neRY _ _ _ _), (stored_old hsrc (hblk.over4 _ _ _ _)), (rS.other4 neRS _ _ _ _), (mv mo_is hk f0), (mv mo_is hk f1), (fun _ => by simp [haf]), s3⟩
      refine StepsU.run rfl ?_ StepsU.nil
      · intro L U wr hF hlk haf A K hA hK
        have HA : Hid (A = putAll _ _ U) := hA
        clear hA
        simp [Aft, Region.binds] at haf
        obtain ⟨fb, fk, fs, oX, oY, rR, rS, f0, f1, s2, s3⟩ := hF
        have g1 := f1 (by simp [haf])
        have hsrc := g1
        have e24 := rd HA.out 24 (by kernel_rfl) hsrc
        have e3 : A.tmps[3]? = some (.pointer (some ⟨w.heap.size + 1, 0, none⟩)) := by rw [HA.out]; kernel_rfl
        simp only [hlk, cond_false] at rS
        obtain ⟨cs, hcs, hblk⟩ := rS
        injection hcs with hcs
        subst hcs
        obtain ⟨c0, c1, c2, c3⟩ := hblk.four
        obtain ⟨q0, q1, q2, q3⟩ := hblk.frozen4
        refine ⟨?_⟩
        go_simp
        have hk := keepI_four (noI_slice _ _ _) (noI_slice _ _ _) hblk xY aY nY cY yY eY mY fY
        refine hK U _ _ ?_ ?_
        · exact HA.out
        · exact ⟨(below_store4 fb geS _ _ _ _), (fk.trans hk), (by simpa using fs), (oX.other4 neSX _ _ _ _), (oY.other4 neSY _ _ _ _), (rR.other4 neSR _ _ _ _), (stored_old hsrc (hblk.over4 _ _ _ _)), (mv mo_is hk f0), (mv mo_is hk f1), s2, (fun _ => by simp [haf])⟩
    intro L U3 V3 hall hF
    have hbw0 := hbw
    clear hbw
    obtain ⟨hbw, fk, fs, oX, oY, rR, rS, f0, f1, s2, s3⟩ := hF
    clear s2 s3
    have g0 := f0 (hall 0 (by decide))
    have g1 := f1 (hall 1 (by decide))
    rw [hall 2 (by decide), cond_true] at rR
    rw [hall 3 (by decide), cond_true] at rS
    clear hall f0 f1
    replace hX := hX.keepI fk
    replace hY := hY.keepI fk
    replace ltX := Nat.lt_of_lt_of_le ltX fs
    replace ltY := Nat.lt_of_lt_of_le ltY fs
    replace ltR := Nat.lt_of_lt_of_le ltR fs
    replace ltS := Nat.lt_of_lt_of_le ltS fs
    clear hbw0
    simp only [setM_some, setM_none, setM_nil]
    clear fk fs
    rw [show U3 23 = _ from g0] at rR
    obtain ⟨csR, hcsR, oR⟩ := rR
    injection hcsR with hcsR
    subst hcsR
    obtain ⟨R0, R1, R2, R3⟩ := oR.four
    rw [show U3 24 = _ from g1] at rS
    obtain ⟨csS, hcsS, oS⟩ := rS
    injection hcsS with hcsS
    subst hcsS
    obtain ⟨S0, S1, S2, S3⟩ := oS.four
    try simp only []
    try go_at_K
    repeat (first | go_values | go_skip | go_guarded | go_step | go_upon)
    refine bodyPost_ret (v := (.tuple #[.agg #[.bool xX, .slice aX nX cX, .bool yX, .slice eX mX fX], .agg #[.bool xY, .slice aY nY cY, .bool yY, .slice eY mY fY]])) (by simp [results, Try.results9, go_sem, R0, R1, R2, R3, S0, S1, S2, S3]) rfl ?_
    exact ⟨_, _, _, _, _, _, _, _, _, _, _, _, _, _, _, _, _, rfl, hX, hY, hbw⟩
  · have HT : Hid (s.size ≤ 700) := Nat.le_of_not_lt h7
    go_wp2_with fail
    refine (parseq_any s _ (by have := HT.out; omega)).mono ?_
    rintro e w1 ⟨xX, aX, nX, cX, yX, eX, mX, fX, co1, q1, rfl, hX, HP1, hb⟩
    replace oR := oR.stay hb
    replace ltR := oR.lt
    replace oS := oS.stay hb
    replace ltS := oS.lt
    replace hbw := hbw.step hb (Nat.le_refl _)
    clear hb
    have hn := below_new w1 (.cells #[.bool xX, .slice aX nX cX, .bool yX, .slice eX mX fX] 27 (0, 0))
    have oX := Blk.new w1 27 #[.bool xX, .slice aX nX cX, .bool yX, .slice eX mX fX]
    have neRX : w.heap.size ≠ w1.heap.size := Nat.ne_of_lt ltR
    have neSX : w.heap.size + 1 ≠ w1.heap.size := Nat.ne_of_lt ltS
    have lwX : w.heap.size ≤ w1.heap.size := hbw.size
    replace oR := oR.stay hn
    replace ltR := oR.lt
    replace oS := oS.stay hn
    replace ltS := oS.lt
    replace hX := hX.below hn
    replace hbw := hbw.step hn (Nat.le_refl _)
    clear hn
    have ltX := oX.lt
    go_wp2_with fail
    refine (rparseq_any s _ (by have := HT.out; omega)).mono ?_
    rintro e w2 ⟨xY, aY, nY, cY, yY, eY, mY, fY, co2, q2, rfl, hY, HP2, hb⟩
    replace oR := oR.stay hb
    replace ltR := oR.lt
    replace oS := oS.stay hb
    replace ltS := oS.lt
    replace oX := oX.stay hb
    replace ltX := oX.lt
    replace hX := hX.below hb
    replace hbw := hbw.step hb (Nat.le_refl _)
    clear hb
    have hn := below_new w2 (.cells #[.bool xY, .slice aY nY cY, .bool yY, .slice eY mY fY] 32 (0, 0))
    have oY := Blk.new w2 32 #[.bool xY, .slice aY nY cY, .bool yY, .slice eY mY fY]
    have neRY : w.heap.size ≠ w2.heap.size := Nat.ne_of_lt ltR
    have neSY : w.heap.size + 1 ≠ w2.heap.size := Nat.ne_of_lt ltS
    have neXY : w1.heap.size ≠ w2.heap.size := Nat.ne_of_lt ltX
    have lwY : w.heap.size ≤ w2.heap.size := hbw.size
    replace oR := oR.stay hn
    replace ltR := oR.lt
    replace oS := oS.stay hn
    replace ltS := oS.lt
    replace oX := oX.stay hn
    replace ltX := oX.lt
    replace hX := hX.below hn
    replace hY := hY.below hn
    replace hbw := hbw.step hn (Nat.le_refl _)
    clear hn
    have ltY := oY.lt
    obtain ⟨rfl, rfl⟩ := HP1.out.same HP2.out
    go_wp2
    generalize (w2.alloc (.cells #[.bool xY, .slice aY nY cY, .bool yY, .slice eY mY fY] 32 (0, 0))) = W2 at hbw oR oS oX oY ltR ltS ltX ltY hX hY ⊢
    have rR := oR
    clear oR
    have geR : w.heap.size ≤ w.heap.size := by omega
    have neRS : w.heap.size ≠ w.heap.size + 1 := by omega
    have rS := oS
    clear oS
    have geS : w.heap.size ≤ w.heap.size + 1 := by omega
    have neSR := neRS.symm
    refine wp_region_M (by kernel_rfl) [23, 24] [none, none, none, none, none, none, none, none, none, none, none, none, none, none, none, none, none, none, none, none, none, none, none, some 23, some 24] (fun U => by kernel_rfl) (fun L U wr => Below w.heap.size w wr ∧ KeepI W2 wr ∧ W2.heap.size ≤ wr.heap.size ∧ Blk 27 wr (w1.heap.size) #[.bool xX, .slice aX nX cX, .bool yX, .slice eX mX fX] ∧ Blk 32 wr (w2.heap.size) #[.bool xY, .slice aY nY cY, .bool yY, .slice eY mY fY] ∧ BlkV 27 wr (w.heap.size) (bif L 2 then U 23 else .agg #[.bool false, .slice none 0 0, .bool false, .slice none 0 0]) ∧ BlkV 32 wr (w.heap.size + 1) (bif L 3 then U 24 else .agg #[.bool false, .slice none 0 0, .bool false, .slice none 0 0]) ∧ (L 0 = true → IS (.agg #[.bool xX, .slice aX nX cX, .bool yX, .slice eX mX fX]) (U 23) wr) ∧ (L 1 = true → IS (.agg #[.bool xY, .slice aY nY cY, .bool yY, .slice eY mY fY]) (U 24) wr) ∧ (L 2 = true → L 0 = true) ∧ (L 3 = true → L 1 = true)) (by kernel_rfl) ?_ ?_ ?_
    · exact fun U => ⟨hbw.drew, KeepI.below (Below.refl _ _).drew, Nat.le_refl _, oX.drew, oY.drew, ⟨_, rfl, rR.drew⟩, ⟨_, rfl, rS.drew⟩, (fun h => by cases h), (fun h => by cases h), (fun h => by cases h), (fun h => by cases h)⟩
    · refine StepsU.run rfl ?_ ?_
      · intro L U wr hF hlk haf A K hA hK
        have HA : Hid (A = putAll _ _ U) := hA
        clear hA
        simp [Aft, Region.binds] at haf
        obtain ⟨fb, fk, fs, oX, oY, rR, rS, f0, f1, s2, s3⟩ := hF
        have e4 : A.tmps[4]? = some (.pointer (some ⟨w1.heap.size, 0, none⟩)) := by rw [HA.out]; kernel_rfl
        obtain ⟨c0, c1, c2, c3⟩ := oX.four
        refine ⟨?_⟩
        go_simp
        have hs2 : L 2 = false := by cases h : L 2 with | false => rfl | true => rw [s2 h] at hlk; cases hlk
        refine hK (upd U 23 (.agg #[.bool xX, .slice aX nX cX, .bool yX, .slice eX mX fX])) _ _ ?_ ?_
        · rw [HA.out]; kernel_rfl
        · exact ⟨fb, fk, fs, oX, oY, (flip_v (P := fun v => BlkV _ _ _ v) hs2 rR), rS, (fun _ => rfl), f1, (fun _ => rfl), s3⟩
      refine StepsU.run rfl ?_ ?_
      · intro L U wr hF hlk haf A K hA hK
        have HA : Hid (A = putAll _ _ U) := hA
        clear hA
        simp [Aft, Region.binds] at haf
        obtain ⟨fb, fk, fs, oX, oY, rR, rS, f0, f1, s2, s3⟩ := hF
        have e6 : A.tmps[6]? = some (.pointer (some ⟨w2.heap.size, 0, none⟩)) := by rw [HA.out]; kernel_rfl
        obtain ⟨c0, c1, c2, c3⟩ := oY.four
        refine ⟨?_⟩
        go_simp
        have hs3 : L 3 = false := by cases h : L 3 with | false => rfl | true => rw [s3 h] at hlk; cases hlk
        refine hK (upd U 24 (.agg #[.bool xY, .slice aY nY cY, .bool yY, .slice eY mY fY])) _ _ ?_ ?_
        · rw [HA.out]; kernel_rfl
        · exact ⟨fb, fk, fs, oX, oY, rR, (flip_v (P := fun v => BlkV _ _ _ v) hs3 rS), f0, (fun _ => rfl), s2, (fun _ => rfl)⟩
      refine StepsU.run rfl ?_ ?_
      · intro L U wr hF hlk haf A K hA hK
        have HA : Hid (A = putAll _ _ U) := hA
        clear hA
        simp [Aft, Region.binds] at haf
        obtain ⟨fb, fk, fs, oX, oY, rR, rS, f0, f1, s2, s3⟩ := hF
        have g0 := f0 (by simp [haf])
        have hsrc := g0
        have e23 := rd HA.out 23 (by kernel_rfl) hsrc
        have e2 : A.tmps[2]? = some (.pointer (some ⟨w.heap.size, 0, none⟩)) := by rw [HA.out]; kernel_rfl
        simp only [hlk, cond_false] at rR
        obtain ⟨cs, hcs, hblk⟩ := rR
        injection hcs with hcs
        subst hcs
        obtain ⟨c0, c1, c2, c3⟩ := hblk.four
        obtain ⟨q0, q1, q2, q3⟩ := hblk.frozen4
        refine ⟨?_⟩
        go_simp
        have hk := keepI_four (noI_slice _ _ _) (noI_slice _ _ _) hblk xX aX nX cX yX eX mX fX
        refine hK U _ _ ?_ ?_
        · exact HA.out
        · exact ⟨(below_store4 fb geR _ _ _ _), (fk.trans hk), (by simpa using fs), (oX.other4 neRX _ _ _ _), (oY.other4 neRY _ _ _ _), (stored_old hsrc (hblk.over4 _ _ _ _)), (rS.other4 neRS _ _ _ _), (mv mo_is hk f0), (mv mo_is hk f1), (fun _ => by simp [haf]), s3⟩
      refine StepsU.run rfl ?_ StepsU.nil
      · intro L U wr hF hlk haf A K hA hK
        have HA : Hid (A = putAll _ _ U) := hA
        clear hA
        simp [Aft, Region.binds] at haf
        obtain ⟨fb, fk, fs, oX, oY, rR, rS, f0, f1, s2, s3⟩ := hF
        have g1 := f1 (by simp [haf])
        have hsrc := g1
        have e24 := rd HA.out 24 (by kernel_rfl) hsrc
        have e3 : A.tmps[3]? = some (.pointer (some ⟨w.heap.size + 1, 0, none⟩)) := by rw [HA.out]; kernel_rfl
        simp only [hlk, cond_false] at rS
        obtain ⟨cs, hcs, hblk⟩ := rS
        injection hcs with hcs
        subst hcs
        obtain ⟨c0, c1, c2, c3⟩ := hblk.four
        obtain ⟨q0, q1, q2, q3⟩ := hblk.frozen4
        refine ⟨?_⟩
        go_simp
        have hk := keepI_four (noI_slice _ _ _) (noI_slice _ _ _) hblk xY aY nY cY yY eY mY fY
        refine hK U _ _ ?_ ?_
        · exact HA.out
        · exact ⟨(below_store4 fb geS _ _ _ _), (fk.trans hk), (by simpa using fs), (oX.other4 neSX _ _ _ _), (oY.other4 neSY _ _ _ _), (rR.other4 neSR _ _ _ _), (stored_old hsrc (hblk.over4 _ _ _ _)), (mv mo_is hk f0), (mv mo_is hk f1), s2, (fun _ => by simp [haf])⟩
    intro L U3 V3 hall hF
    have hbw0 := hbw
    clear hbw
    obtain ⟨hbw, fk, fs, oX, oY, rR, rS, f0, f1, s2, s3⟩ := hF
    clear s2 s3
    have g0 := f0 (hall 0 (by decide))
    have g1 := f1 (hall 1 (by decide))
    rw [hall 2 (by decide), cond_true] at rR
    rw [hall 3 (by decide), cond_true] at rS
    clear hall f0 f1
    replace hX := hX.keepI fk
    replace hY := hY.keepI fk
    replace ltX := Nat.lt_of_lt_of_le ltX fs
    replace ltY := Nat.lt_of_lt_of_le ltY fs
    replace ltR := Nat.lt_of_lt_of_le ltR fs
    replace ltS := Nat.lt_of_lt_of_le ltS fs
    clear hbw0
    simp only [setM_some, setM_none, setM_nil]
    clear fk fs
    rw [show U3 23 = _ from g0] at rR
    obtain ⟨csR, hcsR, oR⟩ := rR
    injection hcsR with hcsR
    subst hcsR
    obtain ⟨R0, R1, R2, R3⟩ := oR.four
    rw [show U3 24 = _ from g1] at rS
    obtain ⟨csS, hcsS, oS⟩ := rS
    injection hcsS with hcsS
    subst hcsS
    obtain ⟨S0, S1, S2, S3⟩ := oS.four
    try simp only []
    try go_at_K
    repeat (first | go_values | go_skip | go_guarded | go_step | go_upon)
    refine bodyPost_ret (v := (.tuple #[.agg #[.bool xX, .slice aX nX cX, .bool yX, .slice eX mX fX], .agg #[.bool xY, .slice aY nY cY, .bool yY, .slice eY mY fY]])) (by simp [results, Try.results9, go_sem, R0, R1, R2, R3, S0, S1, S2, S3]) rfl ?_
    exact ⟨_, _, _, _, _, _, _, _, _, _, _, _, _, _, _, _, _, rfl, hX, hY, hbw⟩

end Go.Proofs.Ytidpbdhhbeaijab
