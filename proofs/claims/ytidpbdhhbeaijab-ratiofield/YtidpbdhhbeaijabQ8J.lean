/- Contract of ratio's Cmp; it proves no statement of the seat. -/
import Derived.Test.YtidpbdhhbeaijabQ3J
namespace Go.Proofs.Ytidpbdhhbeaijab
open Go.RowKit

set_option maxRecDepth 20000 in
set_option maxHeartbeats 16000000 in
theorem qcmp_any (vX vY : Value) (x1 y1 : Rat) (w : World) (hX : QV w vX x1) (hY : QV w vY y1) :
    Calls Try.prog 13 #[vX, vY] w fun e w' => e = .returned (.int .i64 (cmpQ x1 y1)) ∧ Below w.heap.size w w' := by
  obtain ⟨xX, aX, nX, cX, yX, eX, mX, fX, rfl, hX⟩ := hX
  obtain ⟨xY, aY, nY, cY, yY, eY, mY, fY, rfl, hY⟩ := hY
  have oX := ((Blk.new w 27 #[.bool xX, .slice aX nX cX, .bool yX, .slice eX mX fX]).alloc (.cells #[.bool xY, .slice aY nY cY, .bool yY, .slice eY mY fY] 27 (0, 0)))
  have oY := (Blk.new (w.alloc (.cells #[.bool xX, .slice aX nX cX, .bool yX, .slice eX mX fX] 27 (0, 0))) 27 #[.bool xY, .slice aY nY cY, .bool yY, .slice eY mY fY])
  simp only [World.size_alloc] at oY
  have hbw : Below w.heap.size w ((w.alloc (.cells #[.bool xX, .slice aX nX cX, .bool yX, .slice eX mX fX] 27 (0, 0))).alloc (.cells #[.bool xY, .slice aY nY cY, .bool yY, .slice eY mY fY] 27 (0, 0))) := by go_grown
  replace hX := hX.below hbw
  replace hY := hY.below hbw
  have ltX := oX.lt
  have ltY := oY.lt
  go_enter Try.func13, Try.ntmps13
  go_wp2
  generalize ((w.alloc (.cells #[.bool xX, .slice aX nX cX, .bool yX, .slice eX mX fX] 27 (0, 0))).alloc (.cells #[.bool xY, .slice aY nY cY, .bool yY, .slice eY mY fY] 27 (0, 0))) = W0 at hbw oX oY ltX ltY hX hY ⊢
  refine wp_region_M (by kernel_rfl) [5, 6, 7, 8, 16, 17, 18, 19, 20, 21, 22, 23] [none, none, none, none, none, some 5, some 6, some 7, some 8, none, none, none, none, none, none, none, some 16, some 17, some 18, some 19, some 20, some 21, some 22, some 23] (fun U => by kernel_rfl) (fun L U wr => Below w.heap.size w wr ∧ KeepI W0 wr ∧ W0.heap.size ≤ wr.heap.size ∧ Blk 27 wr (w.heap.size) #[.bool xX, .slice aX nX cX, .bool yX, .slice eX mX fX] ∧ Blk 27 wr (w.heap.size + 1) #[.bool xY, .slice aY nY cY, .bool yY, .slice eY mY fY] ∧ (L 0 = true → IS (.pointer (some ⟨w.heap.size, 0, none⟩)) (U 16) wr) ∧ (L 1 = true → IS (.agg #[.bool xX, .slice aX nX cX]) (U 17) wr) ∧ (L 2 = true → IS (.agg #[.bool xX, .slice aX nX cX, .bool yX, .slice eX mX fX]) (U 18) wr) ∧ (L 3 = true → INT (x1.den : Int) (U 19) wr) ∧ (L 4 = true → IS (.pointer (some ⟨w.heap.size + 1, 0, none⟩)) (U 20) wr) ∧ (L 5 = true → IS (.agg #[.bool xY, .slice aY nY cY]) (U 21) wr) ∧ (L 6 = true → IS (.agg #[.bool xY, .slice aY nY cY, .bool yY, .slice eY mY fY]) (U 22) wr) ∧ (L 7 = true → INT (y1.den : Int) (U 23) wr) ∧ (L 8 = true → NEW 25 W0.heap.size wr (U 5) (bif L 12 then U 17 else .agg #[.bool false, .slice none 0 0])) ∧ (L 9 = true → NEW 25 W0.heap.size wr (U 6) (bif L 13 then U 19 else .agg #[.bool false, .slice none 0 0])) ∧ (L 10 = true → NEW 25 W0.heap.size wr (U 7) (bif L 14 then U 21 else .agg #[.bool false, .slice none 0 0])) ∧ (L 11 = true → NEW 25 W0.heap.size wr (U 8) (bif L 15 then U 23 else .agg #[.bool false, .slice none 0 0])) ∧ (L 12 = true → L 1 = true) ∧ (L 13 = true → L 3 = true) ∧ (L 14 = true → L 5 = true) ∧ (L 15 = true → L 7 = true) ∧ (L 12 = true → L 8 = true) ∧ (L 13 = true → L 9 = true) ∧ (L 8 = true → L 9 = true → U 5 ≠ U 6) ∧ (L 14 = true → L 10 = true) ∧ (L 8 = true → L 10 = true → U 5 ≠ U 7) ∧ (L 9 = true → L 10 = true → U 6 ≠ U 7) ∧ (L 15 = true → L 11 = true) ∧ (L 8 = true → L 11 = true → U 5 ≠ U 8) ∧ (L 9 = true → L 11 = true → U 6 ≠ U 8) ∧ (L 10 = true → L 11 = true → U 7 ≠ U 8)) (by kernel_rfl) ?_ ?_ ?_
  · exact fun U => ⟨hbw.drew, KeepI.below (Below.refl _ _).drew, Nat.le_refl _, oX.drew, oY.drew, (fun h => by cases h), (fun h => by cases h), (fun h => by cases h), (fun h => by cases h), (fun h => by cases h), (fun h => by cases h), (fun h => by cases h), (fun h => by cases h), (fun h => by cases h), (fun h => by cases h), (fun h => by cases h), (fun h => by cases h), (fun h => by cases h), (fun h => by cases h), (fun h => by cases h), (fun h => by cases h), (fun h => by cases h), (fun h => by cases h), (fun h => by cases h), (fun h => by cases h), (fun h => by cases h), (fun h => by cases h), (fun h => by cases h), (fun h => by cases h), (fun h => by cases h), (fun h => by cases h)⟩
  · refine StepsU.run rfl ?_ ?_
    · intro L U wr hF hlk haf A K hA hK
      have HA : Hid (A = putAll _ _ U) := hA
      clear hA
      simp [Aft, Region.binds] at haf
      obtain ⟨fb, fk, fs, oX, oY, f0, f1, f2, f3, f4, f5, f6, f7, f8, f9, f10, f11, s12, s13, s14, s15, m8, m9, d8_9, m10, d8_10, d9_10, m11, d8_11, d9_11, d10_11⟩ := hF
      have e2 : A.tmps[2]? = some (.pointer (some ⟨w.heap.size, 0, none⟩)) := by rw [HA.out]; kernel_rfl
      refine ⟨?_⟩
      go_simp
      refine hK (upd U 16 (.pointer (some ⟨w.heap.size, 0, none⟩))) _ _ ?_ ?_
      · rw [HA.out]; kernel_rfl
      · exact ⟨fb, fk, fs, oX, oY, (fun _ => rfl), f1, f2, f3, f4, f5, f6, f7, f8, f9, f10, f11, s12, s13, s14, s15, m8, m9, d8_9, m10, d8_10, d9_10, m11, d8_11, d9_11, d10_11⟩
    refine StepsU.run rfl ?_ ?_
    · intro L U wr hF hlk haf A K hA hK
      have HA : Hid (A = putAll _ _ U) := hA
      clear hA
      simp [Aft, Region.binds] at haf
      obtain ⟨fb, fk, fs, oX, oY, f0, f1, f2, f3, f4, f5, f6, f7, f8, f9, f10, f11, s12, s13, s14, s15, m8, m9, d8_9, m10, d8_10, d9_10, m11, d8_11, d9_11, d10_11⟩ := hF
      have g0 := f0 (by simp [haf])
      have e16 := rd HA.out 16 (by kernel_rfl) g0
      obtain ⟨c0, c1, c2, c3⟩ := oX.four
      refine ⟨?_⟩
      go_simp
      have hs12 : L 12 = false := by cases h : L 12 with | false => rfl | true => rw [s12 h] at hlk; cases hlk
      refine hK (upd U 17 (.agg #[.bool xX, .slice aX nX cX])) _ _ ?_ ?_
      · rw [HA.out]; kernel_rfl
      · exact ⟨fb, fk, fs, oX, oY, f0, (fun _ => rfl), f2, f3, f4, f5, f6, f7, (fun h => flip_v (P := fun v => NEW _ _ _ _ v) hs12 (f8 h)), f9, f10, f11, (fun _ => rfl), s13, s14, s15, m8, m9, d8_9, m10, d8_10, d9_10, m11, d8_11, d9_11, d10_11⟩
    refine StepsU.run rfl ?_ ?_
    · intro L U wr hF hlk haf A K hA hK
      have HA : Hid (A = putAll _ _ U) := hA
      clear hA
      simp [Aft, Region.binds] at haf
      obtain ⟨fb, fk, fs, oX, oY, f0, f1, f2, f3, f4, f5, f6, f7, f8, f9, f10, f11, s12, s13, s14, s15, m8, m9, d8_9, m10, d8_10, d9_10, m11, d8_11, d9_11, d10_11⟩ := hF
      have e2 : A.tmps[2]? = some (.pointer (some ⟨w.heap.size, 0, none⟩)) := by rw [HA.out]; kernel_rfl
      obtain ⟨c0, c1, c2, c3⟩ := oX.four
      refine ⟨?_⟩
      go_simp
      refine hK (upd U 18 (.agg #[.bool xX, .slice aX nX cX, .bool yX, .slice eX mX fX])) _ _ ?_ ?_
      · rw [HA.out]; kernel_rfl
      · exact ⟨fb, fk, fs, oX, oY, f0, f1, (fun _ => rfl), f3, f4, f5, f6, f7, f8, f9, f10, f11, s12, s13, s14, s15, m8, m9, d8_9, m10, d8_10, d9_10, m11, d8_11, d9_11, d10_11⟩
    refine StepsU.run rfl ?_ ?_
    · intro L U wr hF hlk haf A K hA hK
      have HA : Hid (A = putAll _ _ U) := hA
      clear hA
      simp [Aft, Region.binds] at haf
      obtain ⟨fb, fk, fs, oX, oY, f0, f1, f2, f3, f4, f5, f6, f7, f8, f9, f10, f11, s12, s13, s14, s15, m8, m9, d8_9, m10, d8_10, d9_10, m11, d8_11, d9_11, d10_11⟩ := hF
      have g2 := f2 (by simp [haf])
      have e18 := rd HA.out 18 (by kernel_rfl) g2
      refine ⟨?_⟩
      go_simp
      refine (den_any _ x1 _ (hX.val.keepI fk)).mono ?_
      rintro e w1 ⟨u1, u2, u3, u4, rfl, hr, hb⟩
      go_simp
      have hs13 : L 13 = false := by cases h : L 13 with | false => rfl | true => rw [s13 h] at hlk; cases hlk
      refine hK (upd U 19 (.agg #[.bool u1, .slice u2 u3 u4])) _ _ ?_ ?_
      · rw [HA.out]; kernel_rfl
      · exact ⟨(fb.step hb (Nat.le_refl _)), (fk.trans (KeepI.below hb)), (Nat.le_trans fs hb.size), (oX.stay hb), (oY.stay hb), (mv mo_is (KeepI.below hb) f0), (mv mo_is (KeepI.below hb) f1), (mv mo_is (KeepI.below hb) f2), (fun _ => hr), (mv mo_is (KeepI.below hb) f4), (mv mo_is (KeepI.below hb) f5), (mv mo_is (KeepI.below hb) f6), (mv mo_int (KeepI.below hb) f7), (fun h => (f8 h).below hb), (fun h => flip_v (P := fun v => NEW _ _ _ _ v) hs13 ((fun h => (f9 h).below hb) h)), (fun h => (f10 h).below hb), (fun h => (f11 h).below hb), s12, (fun _ => rfl), s14, s15, m8, m9, d8_9, m10, d8_10, d9_10, m11, d8_11, d9_11, d10_11⟩
    refine StepsU.run rfl ?_ ?_
    · intro L U wr hF hlk haf A K hA hK
      have HA : Hid (A = putAll _ _ U) := hA
      clear hA
      simp [Aft, Region.binds] at haf
      obtain ⟨fb, fk, fs, oX, oY, f0, f1, f2, f3, f4, f5, f6, f7, f8, f9, f10, f11, s12, s13, s14, s15, m8, m9, d8_9, m10, d8_10, d9_10, m11, d8_11, d9_11, d10_11⟩ := hF
      have e3 : A.tmps[3]? = some (.pointer (some ⟨w.heap.size + 1, 0, none⟩)) := by rw [HA.out]; kernel_rfl
      refine ⟨?_⟩
      go_simp
      refine hK (upd U 20 (.pointer (some ⟨w.heap.size + 1, 0, none⟩))) _ _ ?_ ?_
      · rw [HA.out]; kernel_rfl
      · exact ⟨fb, fk, fs, oX, oY, f0, f1, f2, f3, (fun _ => rfl), f5, f6, f7, f8, f9, f10, f11, s12, s13, s14, s15, m8, m9, d8_9, m10, d8_10, d9_10, m11, d8_11, d9_11, d10_11⟩
    refine StepsU.run rfl ?_ ?_
    · intro L U wr hF hlk haf A K hA hK
      have HA : Hid (A = putAll _ _ U) := hA
      clear hA
      simp [Aft, Region.binds] at haf
      obtain ⟨fb, fk, fs, oX, oY, f0, f1, f2, f3, f4, f5, f6, f7, f8, f9, f10, f11, s12, s13, s14, s15, m8, m9, d8_9, m10, d8_10, d9_10, m11, d8_11, d9_11, d10_11⟩ := hF
      have g4 := f4 (by simp [haf])
      have e20 := rd HA.out 20 (by kernel_rfl) g4
      obtain ⟨c0, c1, c2, c3⟩ := oY.four
      refine ⟨?_⟩
      go_simp
      have hs14 : L 14 = false := by cases h : L 14 with | false => rfl | true => rw [s14 h] at hlk; cases hlk
      refine hK (upd U 21 (.agg #[.bool xY, .slice aY nY cY])) _ _ ?_ ?_
      · rw [HA.out]; kernel_rfl
      · exact ⟨fb, fk, fs, oX, oY, f0, f1, f2, f3, f4, (fun _ => rfl), f6, f7, f8, f9, (fun h => flip_v (P := fun v => NEW _ _ _ _ v) hs14 (f10 h)), f11, s12, s13, (fun _ => rfl), s15, m8, m9, d8_9, m10, d8_10, d9_10, m11, d8_11, d9_11, d10_11⟩
    refine StepsU.run rfl ?_ ?_
    · intro L U wr hF hlk haf A K hA hK
      have HA : Hid (A = putAll _ _ U) := hA
      clear hA
      simp [Aft, Region.binds] at haf
      obtain ⟨fb, fk, fs, oX, oY, f0, f1, f2, f3, f4, f5, f6, f7, f8, f9, f10, f11, s12, s13, s14, s15, m8, m9, d8_9, m10, d8_10, d9_10, m11, d8_11, d9_11, d10_11⟩ := hF
      have e3 : A.tmps[3]? = some (.pointer (some ⟨w.heap.size + 1, 0, none⟩)) := by rw [HA.out]; kernel_rfl
      obtain ⟨c0, c1, c2, c3⟩ := oY.four
      refine ⟨?_⟩
      go_simp
      refine hK (upd U 22 (.agg #[.bool xY, .slice aY nY cY, .bool yY, .slice eY mY fY])) _ _ ?_ ?_
      · rw [HA.out]; kernel_rfl
      · exact ⟨fb, fk, fs, oX, oY, f0, f1, f2, f3, f4, f5, (fun _ => rfl), f7, f8, f9, f10, f11, s12, s13, s14, s15, m8, m9, d8_9, m10, d8_10, d9_10, m11, d8_11, d9_11, d10_11⟩
    refine StepsU.run rfl ?_ ?_
    · intro L U wr hF hlk haf A K hA hK
      have HA : Hid (A = putAll _ _ U) := hA
      clear hA
      simp [Aft, Region.binds] at haf
      obtain ⟨fb, fk, fs, oX, oY, f0, f1, f2, f3, f4, f5, f6, f7, f8, f9, f10, f11, s12, s13, s14, s15, m8, m9, d8_9, m10, d8_10, d9_10, m11, d8_11, d9_11, d10_11⟩ := hF
      have g6 := f6 (by simp [haf])
      have e22 := rd HA.out 22 (by kernel_rfl) g6
      refine ⟨?_⟩
      go_simp
      refine (den_any _ y1 _ (hY.val.keepI fk)).mono ?_
      rintro e w1 ⟨u1, u2, u3, u4, rfl, hr, hb⟩
      go_simp
      have hs15 : L 15 = false := by cases h : L 15 with | false => rfl | true => rw [s15 h] at hlk; cases hlk
      refine hK (upd U 23 (.agg #[.bool u1, .slice u2 u3 u4])) _ _ ?_ ?_
      · rw [HA.out]; kernel_rfl
      · exact ⟨(fb.step hb (Nat.le_refl _)), (fk.trans (KeepI.below hb)), (Nat.le_trans fs hb.size), (oX.stay hb), (oY.stay hb), (mv mo_is (KeepI.below hb) f0), (mv mo_is (KeepI.below hb) f1), (mv mo_is (KeepI.below hb) f2), (mv mo_int (KeepI.below hb) f3), (mv mo_is (KeepI.below hb) f4), (mv mo_is (KeepI.below hb) f5), (mv mo_is (KeepI.below hb) f6), (fun _ => hr), (fun h => (f8 h).below hb), (fun h => (f9 h).below hb), (fun h => (f10 h).below hb), (fun h => flip_v (P := fun v => NEW _ _ _ _ v) hs15 ((fun h => (f11 h).below hb) h)), s12, s13, s14, (fun _ => rfl), m8, m9, d8_9, m10, d8_10, d9_10, m11, d8_11, d9_11, d10_11⟩
    refine StepsU.run rfl ?_ ?_
    · intro L U wr hF hlk haf A K hA hK
      have HA : Hid (A = putAll _ _ U) := hA
      clear hA
      simp [Aft, Region.binds] at haf
      obtain ⟨fb, fk, fs, oX, oY, f0, f1, f2, f3, f4, f5, f6, f7, f8, f9, f10, f11, s12, s13, s14, s15, m8, m9, d8_9, m10, d8_10, d9_10, m11, d8_11, d9_11, d10_11⟩ := hF
      have hst : L 12 = false := by cases h : L 12 with | false => rfl | true => rw [m8 h] at hlk; cases hlk
      refine ⟨?_⟩
      go_simp
      have hb := below_new wr (.cells #[.bool false, .slice none 0 0] 25 (0, 0))
      refine hK (upd U 5 (.pointer (some ⟨wr.heap.size, 0, none⟩))) _ _ ?_ ?_
      · rw [HA.out]; kernel_rfl
      · exact ⟨(fb.step hb (Nat.le_refl _)), (fk.trans (KeepI.below hb)), (Nat.le_trans fs hb.size), (oX.stay hb), (oY.stay hb), (mv mo_is (KeepI.below hb) f0), (mv mo_is (KeepI.below hb) f1), (mv mo_is (KeepI.below hb) f2), (mv mo_int (KeepI.below hb) f3), (mv mo_is (KeepI.below hb) f4), (mv mo_is (KeepI.below hb) f5), (mv mo_is (KeepI.below hb) f6), (mv mo_int (KeepI.below hb) f7), (fun _ => new_zero hst (NEW.mk fs (noI2 _ _ _ _))), (fun h => (f9 h).below hb), (fun h => (f10 h).below hb), (fun h => (f11 h).below hb), s12, s13, s14, s15, (fun _ => rfl), m9, (fun _ h => (f9 h).apart.symm), m10, (fun _ h => (f10 h).apart.symm), d9_10, m11, (fun _ h => (f11 h).apart.symm), d9_11, d10_11⟩
    refine StepsU.run rfl ?_ ?_
    · intro L U wr hF hlk haf A K hA hK
      have HA : Hid (A = putAll _ _ U) := hA
      clear hA
      simp [Aft, Region.binds] at haf
      obtain ⟨fb, fk, fs, oX, oY, f0, f1, f2, f3, f4, f5, f6, f7, f8, f9, f10, f11, s12, s13, s14, s15, m8, m9, d8_9, m10, d8_10, d9_10, m11, d8_11, d9_11, d10_11⟩ := hF
      have hst : L 13 = false := by cases h : L 13 with | false => rfl | true => rw [m9 h] at hlk; cases hlk
      refine ⟨?_⟩
      go_simp
      have hb := below_new wr (.cells #[.bool false, .slice none 0 0] 25 (0, 0))
      refine hK (upd U 6 (.pointer (some ⟨wr.heap.size, 0, none⟩))) _ _ ?_ ?_
      · rw [HA.out]; kernel_rfl
      · exact ⟨(fb.step hb (Nat.le_refl _)), (fk.trans (KeepI.below hb)), (Nat.le_trans fs hb.size), (oX.stay hb), (oY.stay hb), (mv mo_is (KeepI.below hb) f0), (mv mo_is (KeepI.below hb) f1), (mv mo_is (KeepI.below hb) f2), (mv mo_int (KeepI.below hb) f3), (mv mo_is (KeepI.below hb) f4), (mv mo_is (KeepI.below hb) f5), (mv mo_is (KeepI.below hb) f6), (mv mo_int (KeepI.below hb) f7), (fun h => (f8 h).below hb), (fun _ => new_zero hst (NEW.mk fs (noI2 _ _ _ _))), (fun h => (f10 h).below hb), (fun h => (f11 h).below hb), s12, s13, s14, s15, m8, (fun _ => rfl), (fun h _ => (f8 h).apart), m10, d8_10, (fun _ h => (f10 h).apart.symm), m11, d8_11, (fun _ h => (f11 h).apart.symm), d10_11⟩
    refine StepsU.run rfl ?_ ?_
    · intro L U wr hF hlk haf A K hA hK
      have HA : Hid (A = putAll _ _ U) := hA
      clear hA
      simp [Aft, Region.binds] at haf
      obtain ⟨fb, fk, fs, oX, oY, f0, f1, f2, f3, f4, f5, f6, f7, f8, f9, f10, f11, s12, s13, s14, s15, m8, m9, d8_9, m10, d8_10, d9_10, m11, d8_11, d9_11, d10_11⟩ := hF
      have hst : L 14 = false := by cases h : L 14 with | false => rfl | true => rw [m10 h] at hlk; cases hlk
      refine ⟨?_⟩
      go_simp
      have hb := below_new wr (.cells #[.bool false, .slice none 0 0] 25 (0, 0))
      refine hK (upd U 7 (.pointer (some ⟨wr.heap.size, 0, none⟩))) _ _ ?_ ?_
      · rw [HA.out]; kernel_rfl
      · exact ⟨(fb.step hb (Nat.le_refl _)), (fk.trans (KeepI.below hb)), (Nat.le_trans fs hb.size), (oX.stay hb), (oY.stay hb), (mv mo_is (KeepI.below hb) f0), (mv mo_is (KeepI.below hb) f1), (mv mo_is (KeepI.below hb) f2), (mv mo_int (KeepI.below hb) f3), (mv mo_is (KeepI.below hb) f4), (mv mo_is (KeepI.below hb) f5), (mv mo_is (KeepI.below hb) f6), (mv mo_int (KeepI.below hb) f7), (fun h => (f8 h).below hb), (fun h => (f9 h).below hb), (fun _ => new_zero hst (NEW.mk fs (noI2 _ _ _ _))), (fun h => (f11 h).below hb), s12, s13, s14, s15, m8, m9, d8_9, (fun _ => rfl), (fun h _ => (f8 h).apart), (fun h _ => (f9 h).apart), m11, d8_11, d9_11, (fun _ h => (f11 h).apart.symm)⟩
    refine StepsU.run rfl ?_ ?_
    · intro L U wr hF hlk haf A K hA hK
      have HA : Hid (A = putAll _ _ U) := hA
      clear hA
      simp [Aft, Region.binds] at haf
      obtain ⟨fb, fk, fs, oX, oY, f0, f1, f2, f3, f4, f5, f6, f7, f8, f9, f10, f11, s12, s13, s14, s15, m8, m9, d8_9, m10, d8_10, d9_10, m11, d8_11, d9_11, d10_11⟩ := hF
      have hst : L 15 = false := by cases h : L 15 with | false => rfl | true => rw [m11 h] at hlk; cases hlk
      refine ⟨?_⟩
      go_simp
      have hb := below_new wr (.cells #[.bool false, .slice none 0 0] 25 (0, 0))
      refine hK (upd U 8 (.pointer (some ⟨wr.heap.size, 0, none⟩))) _ _ ?_ ?_
      · rw [HA.out]; kernel_rfl
      · exact ⟨(fb.step hb (Nat.le_refl _)), (fk.trans (KeepI.below hb)), (Nat.le_trans fs hb.size), (oX.stay hb), (oY.stay hb), (mv mo_is (KeepI.below hb) f0), (mv mo_is (KeepI.below hb) f1), (mv mo_is (KeepI.below hb) f2), (mv mo_int (KeepI.below hb) f3), (mv mo_is (KeepI.below hb) f4), (mv mo_is (KeepI.below hb) f5), (mv mo_is (KeepI.below hb) f6), (mv mo_int (KeepI.below hb) f7), (fun h => (f8 h).below hb), (fun h => (f9 h).below hb), (fun h => (f10 h).below hb), (fun _ => new_zero hst (NEW.mk fs (noI2 _ _ _ _))), s12, s13, s14, s15, m8, m9, d8_9, m10, d8_10, d9_10, (fun _ => rfl), (fun h _ => (f8 h).apart), (fun h _ => (f9 h).apart), (fun h _ => (f10 h).apart)⟩
    refine StepsU.run rfl ?_ ?_
    · intro L U wr hF hlk haf A K hA hK
      have HA : Hid (A = putAll _ _ U) := hA
      clear hA
      simp [Aft, Region.binds] at haf
      obtain ⟨fb, fk, fs, oX, oY, f0, f1, f2, f3, f4, f5, f6, f7, f8, f9, f10, f11, s12, s13, s14, s15, m8, m9, d8_9, m10, d8_10, d9_10, m11, d8_11, d9_11, d10_11⟩ := hF
      have g1 := f1 (by simp [haf])
      have hsrc := g1
      have e17 := rd HA.out 17 (by kernel_rfl) hsrc
      have gA := f8 (by simp [haf])
      simp only [hlk, cond_false] at gA
      obtain ⟨b, cs, hp, hBb, hcs, hblk, -⟩ := gA
      injection hcs with hcs
      subst hcs
      have e5 := rd HA.out 5 (by kernel_rfl) hp
      obtain ⟨c0, c1, q0, q1⟩ := hblk.two
      refine ⟨?_⟩
      go_simp
      have hk := keepI_two hblk xX aX nX cX
      refine hK U _ _ ?_ ?_
      · exact HA.out
      · exact ⟨(below_store2 fb (Nat.le_trans hbw.size hBb) _ _), (fk.trans hk), (by simpa using fs), (oX.other2 (Nat.ne_of_gt (Nat.lt_of_lt_of_le ltX hBb)) _ _), (oY.other2 (Nat.ne_of_gt (Nat.lt_of_lt_of_le ltY hBb)) _ _), (mv mo_is hk f0), (mv mo_is hk f1), (mv mo_is hk f2), (mv mo_int hk f3), (mv mo_is hk f4), (mv mo_is hk f5), (mv mo_is hk f6), (mv mo_int hk f7), (fun _ => stored_new hp hsrc (NEW.over2 hBb hblk xX aX nX cX)), (fun h => (f9 h).other2 (fun ee => ((d8_9 (by simp [haf]) h).symm) (ee.trans hp.symm)) _ _), (fun h => (f10 h).other2 (fun ee => ((d8_10 (by simp [haf]) h).symm) (ee.trans hp.symm)) _ _), (fun h => (f11 h).other2 (fun ee => ((d8_11 (by simp [haf]) h).symm) (ee.trans hp.symm)) _ _), (fun _ => by simp [haf]), s13, s14, s15, (fun _ => by simp [haf]), m9, d8_9, m10, d8_10, d9_10, m11, d8_11, d9_11, d10_11⟩
    refine StepsU.run rfl ?_ ?_
    · intro L U wr hF hlk haf A K hA hK
      have HA : Hid (A = putAll _ _ U) := hA
      clear hA
      simp [Aft, Region.binds] at haf
      obtain ⟨fb, fk, fs, oX, oY, f0, f1, f2, f3, f4, f5, f6, f7, f8, f9, f10, f11, s12, s13, s14, s15, m8, m9, d8_9, m10, d8_10, d9_10, m11, d8_11, d9_11, d10_11⟩ := hF
      have g3 := f3 (by simp [haf])
      obtain ⟨px, pa, pn, pc, hsrc⟩ := AInt.shape g3
      have e19 := rd HA.out 19 (by kernel_rfl) hsrc
      have gA := f9 (by simp [haf])
      simp only [hlk, cond_false] at gA
      obtain ⟨b, cs, hp, hBb, hcs, hblk, -⟩ := gA
      injection hcs with hcs
      subst hcs
      have e6 := rd HA.out 6 (by kernel_rfl) hp
      obtain ⟨c0, c1, q0, q1⟩ := hblk.two
      refine ⟨?_⟩
      go_simp
      have hk := keepI_two hblk px pa pn pc
      refine hK U _ _ ?_ ?_
      · exact HA.out
      · exact ⟨(below_store2 fb (Nat.le_trans hbw.size hBb) _ _), (fk.trans hk), (by simpa using fs), (oX.other2 (Nat.ne_of_gt (Nat.lt_of_lt_of_le ltX hBb)) _ _), (oY.other2 (Nat.ne_of_gt (Nat.lt_of_lt_of_le ltY hBb)) _ _), (mv mo_is hk f0), (mv mo_is hk f1), (mv mo_is hk f2), (mv mo_int hk f3), (mv mo_is hk f4), (mv mo_is hk f5), (mv mo_is hk f6), (mv mo_int hk f7), (fun h => (f8 h).other2 (fun ee => (d8_9 h (by simp [haf])) (ee.trans hp.symm)) _ _), (fun _ => stored_new hp hsrc (NEW.over2 hBb hblk px pa pn pc)), (fun h => (f10 h).other2 (fun ee => ((d9_10 (by simp [haf]) h).symm) (ee.trans hp.symm)) _ _), (fun h => (f11 h).other2 (fun ee => ((d9_11 (by simp [haf]) h).symm) (ee.trans hp.symm)) _ _), s12, (fun _ => by simp [haf]), s14, s15, m8, (fun _ => by simp [haf]), d8_9, m10, d8_10, d9_10, m11, d8_11, d9_11, d10_11⟩
    refine StepsU.run rfl ?_ ?_
    · intro L U wr hF hlk haf A K hA hK
      have HA : Hid (A = putAll _ _ U) := hA
      clear hA
      simp [Aft, Region.binds] at haf
      obtain ⟨fb, fk, fs, oX, oY, f0, f1, f2, f3, f4, f5, f6, f7, f8, f9, f10, f11, s12, s13, s14, s15, m8, m9, d8_9, m10, d8_10, d9_10, m11, d8_11, d9_11, d10_11⟩ := hF
      have g5 := f5 (by simp [haf])
      have hsrc := g5
      have e21 := rd HA.out 21 (by kernel_rfl) hsrc
      have gA := f10 (by simp [haf])
      simp only [hlk, cond_false] at gA
      obtain ⟨b, cs, hp, hBb, hcs, hblk, -⟩ := gA
      injection hcs with hcs
      subst hcs
      have e7 := rd HA.out 7 (by kernel_rfl) hp
      obtain ⟨c0, c1, q0, q1⟩ := hblk.two
      refine ⟨?_⟩
      go_simp
      have hk := keepI_two hblk xY aY nY cY
      refine hK U _ _ ?_ ?_
      · exact HA.out
      · exact ⟨(below_store2 fb (Nat.le_trans hbw.size hBb) _ _), (fk.trans hk), (by simpa using fs), (oX.other2 (Nat.ne_of_gt (Nat.lt_of_lt_of_le ltX hBb)) _ _), (oY.other2 (Nat.ne_of_gt (Nat.lt_of_lt_of_le ltY hBb)) _ _), (mv mo_is hk f0), (mv mo_is hk f1), (mv mo_is hk f2), (mv mo_int hk f3), (mv mo_is hk f4), (mv mo_is hk f5), (mv mo_is hk f6), (mv mo_int hk f7), (fun h => (f8 h).other2 (fun ee => (d8_10 h (by simp [haf])) (ee.trans hp.symm)) _ _), (fun h => (f9 h).other2 (fun ee => (d9_10 h (by simp [haf])) (ee.trans hp.symm)) _ _), (fun _ => stored_new hp hsrc (NEW.over2 hBb hblk xY aY nY cY)), (fun h => (f11 h).other2 (fun ee => ((d10_11 (by simp [haf]) h).symm) (ee.trans hp.symm)) _ _), s12, s13, (fun _ => by simp [haf]), s15, m8, m9, d8_9, (fun _ => by simp [haf]), d8_10, d9_10, m11, d8_11, d9_11, d10_11⟩
    refine StepsU.run rfl ?_ StepsU.nil
    · intro L U wr hF hlk haf A K hA hK
      have HA : Hid (A = putAll _ _ U) := hA
      clear hA
      simp [Aft, Region.binds] at haf
      obtain ⟨fb, fk, fs, oX, oY, f0, f1, f2, f3, f4, f5, f6, f7, f8, f9, f10, f11, s12, s13, s14, s15, m8, m9, d8_9, m10, d8_10, d9_10, m11, d8_11, d9_11, d10_11⟩ := hF
      have g7 := f7 (by simp [haf])
      obtain ⟨px, pa, pn, pc, hsrc⟩ := AInt.shape g7
      have e23 := rd HA.out 23 (by kernel_rfl) hsrc
      have gA := f11 (by simp [haf])
      simp only [hlk, cond_false] at gA
      obtain ⟨b, cs, hp, hBb, hcs, hblk, -⟩ := gA
      injection hcs with hcs
      subst hcs
      have e8 := rd HA.out 8 (by kernel_rfl) hp
      obtain ⟨c0, c1, q0, q1⟩ := hblk.two
      refine ⟨?_⟩
      go_simp
      have hk := keepI_two hblk px pa pn pc
      refine hK U _ _ ?_ ?_
      · exact HA.out
      · exact ⟨(below_store2 fb (Nat.le_trans hbw.size hBb) _ _), (fk.trans hk), (by simpa using fs), (oX.other2 (Nat.ne_of_gt (Nat.lt_of_lt_of_le ltX hBb)) _ _), (oY.other2 (Nat.ne_of_gt (Nat.lt_of_lt_of_le ltY hBb)) _ _), (mv mo_is hk f0), (mv mo_is hk f1), (mv mo_is hk f2), (mv mo_int hk f3), (mv mo_is hk f4), (mv mo_is hk f5), (mv mo_is hk f6), (mv mo_int hk f7), (fun h => (f8 h).other2 (fun ee => (d8_11 h (by simp [haf])) (ee.trans hp.symm)) _ _), (fun h => (f9 h).other2 (fun ee => (d9_11 h (by simp [haf])) (ee.trans hp.symm)) _ _), (fun h => (f10 h).other2 (fun ee => (d10_11 h (by simp [haf])) (ee.trans hp.symm)) _ _), (fun _ => stored_new hp hsrc (NEW.over2 hBb hblk px pa pn pc)), s12, s13, s14, (fun _ => by simp [haf]), m8, m9, d8_9, m10, d8_10, d9_10, (fun _ => by simp [haf]), d8_11, d9_11, d10_11⟩
  intro L U1 V1 hall hF
  have hbw0 := hbw
  clear hbw
  obtain ⟨hbw, fk, fs, oX, oY, f0, f1, f2, f3, f4, f5, f6, f7, f8, f9, f10, f11, s12, s13, s14, s15, m8, m9, d8_9, m10, d8_10, d9_10, m11, d8_11, d9_11, d10_11⟩ := hF
  clear s12 s13 s14 s15 m8 m9 m10 m11
  have g0 := f0 (hall 0 (by decide))
  have g1 := f1 (hall 1 (by decide))
  have g2 := f2 (hall 2 (by decide))
  have g3 := f3 (hall 3 (by decide))
  have g4 := f4 (hall 4 (by decide))
  have g5 := f5 (hall 5 (by decide))
  have g6 := f6 (hall 6 (by decide))
  have g7 := f7 (hall 7 (by decide))
  have g8 := f8 (hall 8 (by decide))
  rw [hall 12 (by decide), cond_true] at g8
  have g9 := f9 (hall 9 (by decide))
  rw [hall 13 (by decide), cond_true] at g9
  have g10 := f10 (hall 10 (by decide))
  rw [hall 14 (by decide), cond_true] at g10
  have g11 := f11 (hall 11 (by decide))
  rw [hall 15 (by decide), cond_true] at g11
  replace d8_9 := d8_9 (hall 8 (by decide)) (hall 9 (by decide))
  replace d8_10 := d8_10 (hall 8 (by decide)) (hall 10 (by decide))
  replace d9_10 := d9_10 (hall 9 (by decide)) (hall 10 (by decide))
  replace d8_11 := d8_11 (hall 8 (by decide)) (hall 11 (by decide))
  replace d9_11 := d9_11 (hall 9 (by decide)) (hall 11 (by decide))
  replace d10_11 := d10_11 (hall 10 (by decide)) (hall 11 (by decide))
  clear hall f0 f1 f2 f3 f4 f5 f6 f7 f8 f9 f10 f11
  replace hX := hX.keepI fk
  replace hY := hY.keepI fk
  obtain ⟨bA, csA, hpA, lbA, hcsA, oA, -⟩ := g8
  rw [show U1 17 = _ from g1] at hcsA
  injection hcsA with hcsA
  subst hcsA
  have ltA := oA.lt
  obtain ⟨bB, csB, hpB, lbB, hcsB, oB, -⟩ := g9
  obtain ⟨xB, aB, nB, cB, hvB⟩ := AInt.shape g3
  have hB : AInt _ _ _ := g3
  rw [hvB] at hB
  rw [hvB] at hcsB
  injection hcsB with hcsB
  subst hcsB
  have ltB := oB.lt
  obtain ⟨bC, csC, hpC, lbC, hcsC, oC, -⟩ := g10
  rw [show U1 21 = _ from g5] at hcsC
  injection hcsC with hcsC
  subst hcsC
  have ltC := oC.lt
  obtain ⟨bD, csD, hpD, lbD, hcsD, oD, -⟩ := g11
  obtain ⟨xD, aD, nD, cD, hvD⟩ := AInt.shape g7
  have hD : AInt _ _ _ := g7
  rw [hvD] at hD
  rw [hvD] at hcsD
  injection hcsD with hcsD
  subst hcsD
  have ltD := oD.lt
  have neAB : bA ≠ bB := fun h => d8_9 (by rw [hpA, hpB, h])
  clear d8_9
  have neAC : bA ≠ bC := fun h => d8_10 (by rw [hpA, hpC, h])
  clear d8_10
  have neBC : bB ≠ bC := fun h => d9_10 (by rw [hpB, hpC, h])
  clear d9_10
  have neAD : bA ≠ bD := fun h => d8_11 (by rw [hpA, hpD, h])
  clear d8_11
  have neBD : bB ≠ bD := fun h => d9_11 (by rw [hpB, hpD, h])
  clear d9_11
  have neCD : bC ≠ bD := fun h => d10_11 (by rw [hpC, hpD, h])
  clear d10_11
  have neXA : w.heap.size ≠ bA := Nat.ne_of_lt (Nat.lt_of_lt_of_le ltX lbA)
  have neYA : w.heap.size + 1 ≠ bA := Nat.ne_of_lt (Nat.lt_of_lt_of_le ltY lbA)
  have lwA : w.heap.size ≤ bA := Nat.le_trans hbw0.size lbA
  have neXB : w.heap.size ≠ bB := Nat.ne_of_lt (Nat.lt_of_lt_of_le ltX lbB)
  have neYB : w.heap.size + 1 ≠ bB := Nat.ne_of_lt (Nat.lt_of_lt_of_le ltY lbB)
  have lwB : w.heap.size ≤ bB := Nat.le_trans hbw0.size lbB
  have neXC : w.heap.size ≠ bC := Nat.ne_of_lt (Nat.lt_of_lt_of_le ltX lbC)
  have neYC : w.heap.size + 1 ≠ bC := Nat.ne_of_lt (Nat.lt_of_lt_of_le ltY lbC)
  have lwC : w.heap.size ≤ bC := Nat.le_trans hbw0.size lbC
  have neXD : w.heap.size ≠ bD := Nat.ne_of_lt (Nat.lt_of_lt_of_le ltX lbD)
  have neYD : w.heap.size + 1 ≠ bD := Nat.ne_of_lt (Nat.lt_of_lt_of_le ltY lbD)
  have lwD : w.heap.size ≤ bD := Nat.le_trans hbw0.size lbD
  clear lbA lbB lbC lbD
  replace ltX := Nat.lt_of_lt_of_le ltX fs
  replace ltY := Nat.lt_of_lt_of_le ltY fs
  clear g0
  clear g1
  clear g2
  clear g3
  clear g4
  clear g5
  clear g6
  clear g7
  clear hbw0
  simp only [setM_some, setM_none, setM_nil]
  rw [hpA, hpB, hpC, hpD]
  clear hpA hpB hpC hpD hvB hvD
  clear fk fs
  go_wp2
  go_loopg [24] ((x1.den : Int) + (y1.den : Int)).toNat (fun gk v24 wr => ∃ xA aA nA cA xB aB nB cB xC aC nC cC xD aD nD cD za zb zc zd, Blk 25 wr bA #[.bool xA, .slice aA nA cA] ∧ AInt wr (.agg #[.bool xA, .slice aA nA cA]) za ∧ Blk 25 wr bB #[.bool xB, .slice aB nB cB] ∧ AInt wr (.agg #[.bool xB, .slice aB nB cB]) zb ∧ Blk 25 wr bC #[.bool xC, .slice aC nC cC] ∧ AInt wr (.agg #[.bool xC, .slice aC nC cC]) zc ∧ Blk 25 wr bD #[.bool xD, .slice aD nD cD] ∧ AInt wr (.agg #[.bool xD, .slice aD nD cD]) zd ∧ Hid (0 < zb ∧ 0 < zd ∧ (zb + zd).toNat = gk ∧ (za * zd - zc * zb).sign = cmpQ x1 y1) ∧ Below w.heap.size w wr)
  case atStart => exact ⟨xX, aX, nX, cX, xB, aB, nB, cB, xY, aY, nY, cY, xD, aD, nD, cD, x1.num, x1.den, y1.num, y1.den, oA, hX.1, oB, hB, oC, hY.1, oD, hD, ⟨den_pos x1, den_pos y1, rfl, rfl⟩, hbw⟩
  case round =>
    clear hbw hX hY ltX ltY oX oY ltA oA ltB oB ltC oC ltD oD hB hD
    obtain ⟨xA, aA, nA, cA, xB, aB, nB, cB, xC, aC, nC, cC, xD, aD, nD, cD, za, zb, zc, zd, oA, hA, oB, hB, oC, hC, oD, hD, HG, hbw⟩ := hrel
    have ltA := oA.lt
    have ltB := oB.lt
    have ltC := oC.lt
    have ltD := oD.lt
    obtain ⟨p, Hp⟩ : ∃ z, Hid (za.fdiv zb = z) := ⟨_, rfl⟩
    obtain ⟨r, Hr⟩ : ∃ z, Hid (za.fmod zb = z) := ⟨_, rfl⟩
    obtain ⟨q, Hq⟩ : ∃ z, Hid (zc.fdiv zd = z) := ⟨_, rfl⟩
    obtain ⟨s, Hs⟩ : ∃ z, Hid (zc.fmod zd = z) := ⟨_, rfl⟩
    have HB : Hid (zb ≠ 0 ∧ zd ≠ 0) := ⟨Int.ne_of_gt HG.out.1, Int.ne_of_gt HG.out.2.1⟩
    have HC : Hid _ := cmp_parts HG.out.1 HG.out.2.1 Hp.out Hr.out Hq.out Hs.out
    obtain ⟨Ac0, Ac1, Aq0, Aq1⟩ := oA.two
    obtain ⟨Bc0, Bc1, Bq0, Bq1⟩ := oB.two
    go_wp2_with fail
    refine (div_h _ _ za zb p r _ hA hB HB.out.1 Hp.out Hr.out).mono ?_
    rintro e w11 ⟨xP, aP, nP, cP, xR, aR, nR, cR, rfl, hP, hR, hb⟩
    clear Ac0 Ac1 Aq0 Aq1
    clear Bc0 Bc1 Bq0 Bq1
    replace oA := oA.stay hb
    replace ltA := oA.lt
    replace oB := oB.stay hb
    replace ltB := oB.lt
    replace oC := oC.stay hb
    replace ltC := oC.lt
    replace oD := oD.stay hb
    replace ltD := oD.lt
    replace hA := hA.below hb
    replace hB := hB.below hb
    replace hC := hC.below hb
    replace hD := hD.below hb
    replace hbw := hbw.step hb (Nat.le_refl _)
    clear hb
    have hn := below_new w11 (.cells #[.bool xP, .slice aP nP cP] 25 (0, 0))
    have oP := Blk.new w11 25 #[.bool xP, .slice aP nP cP]
    have neAP : bA ≠ w11.heap.size := Nat.ne_of_lt ltA
    have neBP : bB ≠ w11.heap.size := Nat.ne_of_lt ltB
    have neCP : bC ≠ w11.heap.size := Nat.ne_of_lt ltC
    have neDP : bD ≠ w11.heap.size := Nat.ne_of_lt ltD
    have lwP : w.heap.size ≤ w11.heap.size := hbw.size
    replace oA := oA.stay hn
    replace ltA := oA.lt
    replace oB := oB.stay hn
    replace ltB := oB.lt
    replace oC := oC.stay hn
    replace ltC := oC.lt
    replace oD := oD.stay hn
    replace ltD := oD.lt
    replace hA := hA.below hn
    replace hB := hB.below hn
    replace hC := hC.below hn
    replace hD := hD.below hn
    replace hP := hP.below hn
    replace hR := hR.below hn
    replace hbw := hbw.step hn (Nat.le_refl _)
    clear hn
    have ltP := oP.lt
    have hn := below_new (w11.alloc (.cells #[.bool xP, .slice aP nP cP] 25 (0, 0))) (.cells #[.bool xR, .slice aR nR cR] 25 (0, 0))
    have oR := Blk.new (w11.alloc (.cells #[.bool xP, .slice aP nP cP] 25 (0, 0))) 25 #[.bool xR, .slice aR nR cR]
    simp only [World.size_alloc] at oR
    have neAR : bA ≠ w11.heap.size + 1 := by have := ltA; simp at this; omega
    have neBR : bB ≠ w11.heap.size + 1 := by have := ltB; simp at this; omega
    have neCR : bC ≠ w11.heap.size + 1 := by have := ltC; simp at this; omega
    have neDR : bD ≠ w11.heap.size + 1 := by have := ltD; simp at this; omega
    have nePR : w11.heap.size ≠ w11.heap.size + 1 := by have := ltP; simp at this; omega
    replace oA := oA.stay hn
    replace ltA := oA.lt
    replace oB := oB.stay hn
    replace ltB := oB.lt
    replace oC := oC.stay hn
    replace ltC := oC.lt
    replace oD := oD.stay hn
    replace ltD := oD.lt
    replace oP := oP.stay hn
    replace ltP := oP.lt
    replace hA := hA.below hn
    replace hB := hB.below hn
    replace hC := hC.below hn
    replace hD := hD.below hn
    replace hP := hP.below hn
    replace hR := hR.below hn
    replace hbw := hbw.step hn (Nat.le_refl _)
    clear hn
    have ltR := oR.lt
    obtain ⟨Cc0, Cc1, Cq0, Cq1⟩ := oC.two
    obtain ⟨Dc0, Dc1, Dq0, Dq1⟩ := oD.two
    go_wp2_with fail
    refine (div_h _ _ zc zd q s _ hC hD HB.out.2 Hq.out Hs.out).mono ?_
    rintro e w12 ⟨xQ, aQ, nQ, cQ, xS, aS, nS, cS, rfl, hQ, hS, hb⟩
    clear Cc0 Cc1 Cq0 Cq1
    clear Dc0 Dc1 Dq0 Dq1
    replace oA := oA.stay hb
    replace ltA := oA.lt
    replace oB := oB.stay hb
    replace ltB := oB.lt
    replace oC := oC.stay hb
    replace ltC := oC.lt
    replace oD := oD.stay hb
    replace ltD := oD.lt
    replace oP := oP.stay hb
    replace ltP := oP.lt
    replace oR := oR.stay hb
    replace ltR := oR.lt
    replace hA := hA.below hb
    replace hB := hB.below hb
    replace hC := hC.below hb
    replace hD := hD.below hb
    replace hP := hP.below hb
    replace hR := hR.below hb
    replace hbw := hbw.step hb (Nat.le_refl _)
    clear hb
    have hn := below_new w12 (.cells #[.bool xQ, .slice aQ nQ cQ] 25 (0, 0))
    have oQ := Blk.new w12 25 #[.bool xQ, .slice aQ nQ cQ]
    have neAQ : bA ≠ w12.heap.size := Nat.ne_of_lt ltA
    have neBQ : bB ≠ w12.heap.size := Nat.ne_of_lt ltB
    have neCQ : bC ≠ w12.heap.size := Nat.ne_of_lt ltC
    have neDQ : bD ≠ w12.heap.size := Nat.ne_of_lt ltD
    have nePQ : w11.heap.size ≠ w12.heap.size := Nat.ne_of_lt ltP
    have neRQ : w11.heap.size + 1 ≠ w12.heap.size := Nat.ne_of_lt ltR
    have lwQ : w.heap.size ≤ w12.heap.size := hbw.size
    replace oA := oA.stay hn
    replace ltA := oA.lt
    replace oB := oB.stay hn
    replace ltB := oB.lt
    replace oC := oC.stay hn
    replace ltC := oC.lt
    replace oD := oD.stay hn
    replace ltD := oD.lt
    replace oP := oP.stay hn
    replace ltP := oP.lt
    replace oR := oR.stay hn
    replace ltR := oR.lt
    replace hA := hA.below hn
    replace hB := hB.below hn
    replace hC := hC.below hn
    replace hD := hD.below hn
    replace hP := hP.below hn
    replace hR := hR.below hn
    replace hQ := hQ.below hn
    replace hS := hS.below hn
    replace hbw := hbw.step hn (Nat.le_refl _)
    clear hn
    have ltQ := oQ.lt
    have hn := below_new (w12.alloc (.cells #[.bool xQ, .slice aQ nQ cQ] 25 (0, 0))) (.cells #[.bool xS, .slice aS nS cS] 25 (0, 0))
    have oS := Blk.new (w12.alloc (.cells #[.bool xQ, .slice aQ nQ cQ] 25 (0, 0))) 25 #[.bool xS, .slice aS nS cS]
    simp only [World.size_alloc] at oS
    have neAS : bA ≠ w12.heap.size + 1 := by have := ltA; simp at this; omega
    have neBS : bB ≠ w12.heap.size + 1 := by have := ltB; simp at this; omega
    have neCS : bC ≠ w12.heap.size + 1 := by have := ltC; simp at this; omega
    have neDS : bD ≠ w12.heap.size + 1 := by have := ltD; simp at this; omega
    have nePS : w11.heap.size ≠ w12.heap.size + 1 := by have := ltP; simp at this; omega
    have neRS : w11.heap.size + 1 ≠ w12.heap.size + 1 := by have := ltR; simp at this; omega
    have neQS : w12.heap.size ≠ w12.heap.size + 1 := by have := ltQ; simp at this; omega
    replace oA := oA.stay hn
    replace ltA := oA.lt
    replace oB := oB.stay hn
    replace ltB := oB.lt
    replace oC := oC.stay hn
    replace ltC := oC.lt
    replace oD := oD.stay hn
    replace ltD := oD.lt
    replace oP := oP.stay hn
    replace ltP := oP.lt
    replace oR := oR.stay hn
    replace ltR := oR.lt
    replace oQ := oQ.stay hn
    replace ltQ := oQ.lt
    replace hA := hA.below hn
    replace hB := hB.below hn
    replace hC := hC.below hn
    replace hD := hD.below hn
    replace hP := hP.below hn
    replace hR := hR.below hn
    replace hQ := hQ.below hn
    replace hS := hS.below hn
    replace hbw := hbw.step hn (Nat.le_refl _)
    clear hn
    have ltS := oS.lt
    rcases Int.lt_trichotomy p q with hpq | hpq | hpq
    · have HR : Hid (cmpQ x1 y1 = -1) := by show _ = _; rw [← HG.out.2.2.2]; exact HC.out.1 hpq
      have HD : Hid ((p - q).sign = -1) := Int.sign_eq_neg_one_of_neg (by omega)
      clear hpq
      obtain ⟨Pc0, Pc1, Pq0, Pq1⟩ := oP.two
      obtain ⟨Qc0, Qc1, Qq0, Qq1⟩ := oQ.two
      go_wp2_with fail
      refine (cmp_h _ _ p q (-1) _ hP hQ HD.out).mono ?_
      rintro e w13 ⟨rfl, hb⟩
      clear Pc0 Pc1 Pq0 Pq1
      clear Qc0 Qc1 Qq0 Qq1
      replace oA := oA.stay hb
      replace ltA := oA.lt
      replace oB := oB.stay hb
      replace ltB := oB.lt
      replace oC := oC.stay hb
      replace ltC := oC.lt
      replace oD := oD.stay hb
      replace ltD := oD.lt
      replace oP := oP.stay hb
      replace ltP := oP.lt
      replace oR := oR.stay hb
      replace ltR := oR.lt
      replace oQ := oQ.stay hb
      replace ltQ := oQ.lt
      replace oS := oS.stay hb
      replace ltS := oS.lt
      replace hA := hA.below hb
      replace hB := hB.below hb
      replace hC := hC.below hb
      replace hD := hD.below hb
      replace hP := hP.below hb
      replace hR := hR.below hb
      replace hQ := hQ.below hb
      replace hS := hS.below hb
      replace hbw := hbw.step hb (Nat.le_refl _)
      clear hb
      go_wp2
      refine bodyPost_ret (v := (.int .i64 (-1))) (by simp [results, Try.results13, go_sem]) rfl ?_
      exact ⟨by rw [HR.out], hbw⟩
    · have HE : Hid (za * zd - zc * zb = zd * r - zb * s) := HC.out.2.2.1 hpq
      have HD : Hid ((p - q).sign = 0) := by show _ = _; rw [hpq, Int.sub_self]; rfl
      clear hpq
      obtain ⟨Pc0, Pc1, Pq0, Pq1⟩ := oP.two
      obtain ⟨Qc0, Qc1, Qq0, Qq1⟩ := oQ.two
      go_wp2_with fail
      refine (cmp_h _ _ p q 0 _ hP hQ HD.out).mono ?_
      rintro e w13 ⟨rfl, hb⟩
      clear Pc0 Pc1 Pq0 Pq1
      clear Qc0 Qc1 Qq0 Qq1
      replace oA := oA.stay hb
      replace ltA := oA.lt
      replace oB := oB.stay hb
      replace ltB := oB.lt
      replace oC := oC.stay hb
      replace ltC := oC.lt
      replace oD := oD.stay hb
      replace ltD := oD.lt
      replace oP := oP.stay hb
      replace ltP := oP.lt
      replace oR := oR.stay hb
      replace ltR := oR.lt
      replace oQ := oQ.stay hb
      replace ltQ := oQ.lt
      replace oS := oS.stay hb
      replace ltS := oS.lt
      replace hA := hA.below hb
      replace hB := hB.below hb
      replace hC := hC.below hb
      replace hD := hD.below hb
      replace hP := hP.below hb
      replace hR := hR.below hb
      replace hQ := hQ.below hb
      replace hS := hS.below hb
      replace hbw := hbw.step hb (Nat.le_refl _)
      clear hb
      clear ltP oP
      clear ltQ oQ
      clear hP hQ
      by_cases hr0 : r = 0
      · have HR1 : Hid (r.sign = 0) := by show _ = _; rw [hr0]; rfl
        have HR0 : Hid (r = 0) := hr0
        clear hr0
        obtain ⟨Rc0, Rc1, Rq0, Rq1⟩ := oR.two
        go_wp2_with fail
        refine (sgn_h _ r 0 _ hR HR1.out).mono ?_
        rintro e w14 ⟨rfl, hb⟩
        clear Rc0 Rc1 Rq0 Rq1
        replace oA := oA.stay hb
        replace ltA := oA.lt
        replace oB := oB.stay hb
        replace ltB := oB.lt
        replace oC := oC.stay hb
        replace ltC := oC.lt
        replace oD := oD.stay hb
        replace ltD := oD.lt
        replace oR := oR.stay hb
        replace ltR := oR.lt
        replace oS := oS.stay hb
        replace ltS := oS.lt
        replace hA := hA.below hb
        replace hB := hB.below hb
        replace hC := hC.below hb
        replace hD := hD.below hb
        replace hR := hR.below hb
        replace hS := hS.below hb
        replace hbw := hbw.step hb (Nat.le_refl _)
        clear hb
        by_cases hs0 : s = 0
        · have HS1 : Hid (s.sign = 0) := by show _ = _; rw [hs0]; rfl
          have HS0 : Hid (s = 0) := hs0
          clear hs0
          have HV : Hid (cmpQ x1 y1 = 0) := by
            show _ = _
            rw [← HG.out.2.2.2, HE.out, HR0.out]
            rw [HS0.out]
            simp
          go_wp2
          refine wp_region_M (by kernel_rfl) [4, 52, 53, 54, 55, 56] [none, none, none, none, some 4, none, none, none, none, none, none, none, none, none, none, none, none, none, none, none, none, none, none, none, none, none, none, none, none, none, none, none, none, none, none, none, none, none, none, none, none, none, none, none, none, none, none, none, none, none, none, none, some 52, some 53, some 54, some 55, some 56] (fun U => by kernel_rfl) (fun L U wr => Below w.heap.size w wr ∧ KeepI w14 wr ∧ w14.heap.size ≤ wr.heap.size ∧ Blk 25 wr (w11.heap.size + 1) #[.bool xR, .slice aR nR cR] ∧ Blk 25 wr (w12.heap.size + 1) #[.bool xS, .slice aS nS cS] ∧ (L 0 = true → IS (.agg #[.bool xR, .slice aR nR cR]) (U 52) wr) ∧ (L 1 = true → IS (.int .i64 (0)) (U 53) wr) ∧ (L 2 = true → IS (.agg #[.bool xS, .slice aS nS cS]) (U 54) wr) ∧ (L 3 = true → IS (.int .i64 (0)) (U 55) wr) ∧ (L 4 = true → IS (.int .i64 (0)) (U 56) wr) ∧ (L 5 = true → IS (.int .i64 (0)) (U 4) wr)) (by kernel_rfl) ?_ ?_ ?_
          · exact fun U => ⟨hbw.drew, KeepI.below (Below.refl _ _).drew, Nat.le_refl _, oR.drew, oS.drew, (fun h => by cases h), (fun h => by cases h), (fun h => by cases h), (fun h => by cases h), (fun h => by cases h), (fun h => by cases h)⟩
          · refine StepsU.run rfl ?_ ?_
            · intro L U wr hF hlk haf A K hA hK
              have HA : Hid (A = putAll _ _ U) := hA
              clear hA
              simp [Aft, Region.binds] at haf
              obtain ⟨fb, fk, fs, oR, oS, f0, f1, f2, f3, f4, f5⟩ := hF
              have e10 : A.tmps[10]? = some (.pointer (some ⟨w11.heap.size + 1, 0, none⟩)) := by rw [HA.out]; kernel_rfl
              obtain ⟨c0, c1, -, -⟩ := oR.two
              refine ⟨?_⟩
              go_simp
              refine hK (upd U 52 (.agg #[.bool xR, .slice aR nR cR])) _ _ ?_ ?_
              · rw [HA.out]; kernel_rfl
              · exact ⟨fb, fk, fs, oR, oS, (fun _ => rfl), f1, f2, f3, f4, f5⟩
            refine StepsU.run rfl ?_ ?_
            · intro L U wr hF hlk haf A K hA hK
              have HA : Hid (A = putAll _ _ U) := hA
              clear hA
              simp [Aft, Region.binds] at haf
              obtain ⟨fb, fk, fs, oR, oS, f0, f1, f2, f3, f4, f5⟩ := hF
              have g0 := f0 (by simp [haf])
              have e52 := rd HA.out 52 (by kernel_rfl) g0
              refine ⟨?_⟩
              go_simp
              refine (sgn_h _ r (0) _ (hR.keepI fk) HR1.out).mono ?_
              rintro e w1 ⟨rfl, hb⟩
              go_simp
              refine hK (upd U 53 (.int .i64 (0))) _ _ ?_ ?_
              · rw [HA.out]; kernel_rfl
              · exact ⟨(fb.step hb (Nat.le_refl _)), (fk.trans (KeepI.below hb)), (Nat.le_trans fs hb.size), (oR.stay hb), (oS.stay hb), (mv mo_is (KeepI.below hb) f0), (fun _ => rfl), (mv mo_is (KeepI.below hb) f2), (mv mo_is (KeepI.below hb) f3), (mv mo_is (KeepI.below hb) f4), (mv mo_is (KeepI.below hb) f5)⟩
            refine StepsU.run rfl ?_ ?_
            · intro L U wr hF hlk haf A K hA hK
              have HA : Hid (A = putAll _ _ U) := hA
              clear hA
              simp [Aft, Region.binds] at haf
              obtain ⟨fb, fk, fs, oR, oS, f0, f1, f2, f3, f4, f5⟩ := hF
              have e13 : A.tmps[13]? = some (.pointer (some ⟨w12.heap.size + 1, 0, none⟩)) := by rw [HA.out]; kernel_rfl
              obtain ⟨c0, c1, -, -⟩ := oS.two
              refine ⟨?_⟩
              go_simp
              refine hK (upd U 54 (.agg #[.bool xS, .slice aS nS cS])) _ _ ?_ ?_
              · rw [HA.out]; kernel_rfl
              · exact ⟨fb, fk, fs, oR, oS, f0, f1, (fun _ => rfl), f3, f4, f5⟩
            refine StepsU.run rfl ?_ ?_
            · intro L U wr hF hlk haf A K hA hK
              have HA : Hid (A = putAll _ _ U) := hA
              clear hA
              simp [Aft, Region.binds] at haf
              obtain ⟨fb, fk, fs, oR, oS, f0, f1, f2, f3, f4, f5⟩ := hF
              have g2 := f2 (by simp [haf])
              have e54 := rd HA.out 54 (by kernel_rfl) g2
              refine ⟨?_⟩
              go_simp
              refine (sgn_h _ s (0) _ (hS.keepI fk) HS1.out).mono ?_
              rintro e w1 ⟨rfl, hb⟩
              go_simp
              refine hK (upd U 55 (.int .i64 (0))) _ _ ?_ ?_
              · rw [HA.out]; kernel_rfl
              · exact ⟨(fb.step hb (Nat.le_refl _)), (fk.trans (KeepI.below hb)), (Nat.le_trans fs hb.size), (oR.stay hb), (oS.stay hb), (mv mo_is (KeepI.below hb) f0), (mv mo_is (KeepI.below hb) f1), (mv mo_is (KeepI.below hb) f2), (fun _ => rfl), (mv mo_is (KeepI.below hb) f4), (mv mo_is (KeepI.below hb) f5)⟩
            refine StepsU.run rfl ?_ ?_
            · intro L U wr hF hlk haf A K hA hK
              have HA : Hid (A = putAll _ _ U) := hA
              clear hA
              simp [Aft, Region.binds] at haf
              obtain ⟨fb, fk, fs, oR, oS, f0, f1, f2, f3, f4, f5⟩ := hF
              have g1 := f1 (by simp [haf])
              have g3 := f3 (by simp [haf])
              have e53 := rd HA.out 53 (by kernel_rfl) g1
              have e55 := rd HA.out 55 (by kernel_rfl) g3
              refine ⟨?_⟩
              go_simp
              refine hK (upd U 56 (.int .i64 (0))) _ _ ?_ ?_
              · rw [HA.out]; kernel_rfl
              · exact ⟨fb, fk, fs, oR, oS, f0, f1, f2, f3, (fun _ => rfl), f5⟩
            refine StepsU.run rfl ?_ StepsU.nil
            · intro L U wr hF hlk haf A K hA hK
              have HA : Hid (A = putAll _ _ U) := hA
              clear hA
              simp [Aft, Region.binds] at haf
              obtain ⟨fb, fk, fs, oR, oS, f0, f1, f2, f3, f4, f5⟩ := hF
              have g4 := f4 (by simp [haf])
              have e56 := rd HA.out 56 (by kernel_rfl) rfl
              refine ⟨?_⟩
              go_simp
              refine hK (upd U 4 (U 56)) _ _ ?_ ?_
              · rw [HA.out]; kernel_rfl
              · exact ⟨fb, fk, fs, oR, oS, f0, f1, f2, f3, f4, (fun _ => g4)⟩
          intro L U15 V15 hall hF
          have hbw0 := hbw
          clear hbw
          obtain ⟨hbw, fk, fs, oR, oS, f0, f1, f2, f3, f4, f5⟩ := hF
          have g0 := f0 (hall 0 (by decide))
          have g1 := f1 (hall 1 (by decide))
          have g2 := f2 (hall 2 (by decide))
          have g3 := f3 (hall 3 (by decide))
          have g4 := f4 (hall 4 (by decide))
          have g5 := f5 (hall 5 (by decide))
          clear hall f0 f1 f2 f3 f4 f5
          replace hA := hA.keepI fk
          replace hB := hB.keepI fk
          replace hC := hC.keepI fk
          replace hD := hD.keepI fk
          replace hR := hR.keepI fk
          replace hS := hS.keepI fk
          replace ltR := Nat.lt_of_lt_of_le ltR fs
          replace ltS := Nat.lt_of_lt_of_le ltS fs
          clear g0
          clear g1
          clear g2
          clear g3
          clear g4
          clear hbw0
          simp only [setM_some, setM_none, setM_nil]
          clear ltA oA
          clear ltB oB
          clear ltC oC
          clear ltD oD
          clear fk fs
          have e4 : U15 4 = _ := g5
          try simp only []
          try go_at_K
          repeat (first | go_values | go_skip | go_guarded | go_step | go_upon)
          refine bodyPost_ret (v := (.int .i64 (0))) (by simp [results, Try.results13, go_sem, e4]) rfl ?_
          exact ⟨by rw [HV.out], hbw⟩
        · have HS0 : Hid (0 < s) := by show _ < _; have := HC.out.2.2.2.2.2.1; omega
          have HS1 : Hid (s.sign = 1) := Int.sign_eq_one_of_pos HS0.out
          clear hs0
          have HV : Hid (cmpQ x1 y1 = -1) := by
            show _ = _
            rw [← HG.out.2.2.2, HE.out, HR0.out]
            rw [Int.mul_zero, Int.zero_sub]
            exact Int.sign_eq_neg_one_of_neg (by have := Int.mul_pos HG.out.1 HS0.out; omega)
          go_wp2
          refine wp_region_M (by kernel_rfl) [4, 52, 53, 54, 55, 56] [none, none, none, none, some 4, none, none, none, none, none, none, none, none, none, none, none, none, none, none, none, none, none, none, none, none, none, none, none, none, none, none, none, none, none, none, none, none, none, none, none, none, none, none, none, none, none, none, none, none, none, none, none, some 52, some 53, some 54, some 55, some 56] (fun U => by kernel_rfl) (fun L U wr => Below w.heap.size w wr ∧ KeepI w14 wr ∧ w14.heap.size ≤ wr.heap.size ∧ Blk 25 wr (w11.heap.size + 1) #[.bool xR, .slice aR nR cR] ∧ Blk 25 wr (w12.heap.size + 1) #[.bool xS, .slice aS nS cS] ∧ (L 0 = true → IS (.agg #[.bool xR, .slice aR nR cR]) (U 52) wr) ∧ (L 1 = true → IS (.int .i64 (0)) (U 53) wr) ∧ (L 2 = true → IS (.agg #[.bool xS, .slice aS nS cS]) (U 54) wr) ∧ (L 3 = true → IS (.int .i64 (1)) (U 55) wr) ∧ (L 4 = true → IS (.int .i64 (-1)) (U 56) wr) ∧ (L 5 = true → IS (.int .i64 (-1)) (U 4) wr)) (by kernel_rfl) ?_ ?_ ?_
          · exact fun U => ⟨hbw.drew, KeepI.below (Below.refl _ _).drew, Nat.le_refl _, oR.drew, oS.drew, (fun h => by cases h), (fun h => by cases h), (fun h => by cases h), (fun h => by cases h), (fun h => by cases h), (fun h => by cases h)⟩
          · refine StepsU.run rfl ?_ ?_
            · intro L U wr hF hlk haf A K hA hK
              have HA : Hid (A = putAll _ _ U) := hA
              clear hA
              simp [Aft, Region.binds] at haf
              obtain ⟨fb, fk, fs, oR, oS, f0, f1, f2, f3, f4, f5⟩ := hF
              have e10 : A.tmps[10]? = some (.pointer (some ⟨w11.heap.size + 1, 0, none⟩)) := by rw [HA.out]; kernel_rfl
              obtain ⟨c0, c1, -, -⟩ := oR.two
              refine ⟨?_⟩
              go_simp
              refine hK (upd U 52 (.agg #[.bool xR, .slice aR nR cR])) _ _ ?_ ?_
              · rw [HA.out]; kernel_rfl
              · exact ⟨fb, fk, fs, oR, oS, (fun _ => rfl), f1, f2, f3, f4, f5⟩
            refine StepsU.run rfl ?_ ?_
            · intro L U wr hF hlk haf A K hA hK
              have HA : Hid (A = putAll _ _ U) := hA
              clear hA
              simp [Aft, Region.binds] at haf
              obtain ⟨fb, fk, fs, oR, oS, f0, f1, f2, f3, f4, f5⟩ := hF
              have g0 := f0 (by simp [haf])
              have e52 := rd HA.out 52 (by kernel_rfl) g0
              refine ⟨?_⟩
              go_simp
              refine (sgn_h _ r (0) _ (hR.keepI fk) HR1.out).mono ?_
              rintro e w1 ⟨rfl, hb⟩
              go_simp
              refine hK (upd U 53 (.int .i64 (0))) _ _ ?_ ?_
              · rw [HA.out]; kernel_rfl
              · exact ⟨(fb.step hb (Nat.le_refl _)), (fk.trans (KeepI.below hb)), (Nat.le_trans fs hb.size), (oR.stay hb), (oS.stay hb), (mv mo_is (KeepI.below hb) f0), (fun _ => rfl), (mv mo_is (KeepI.below hb) f2), (mv mo_is (KeepI.below hb) f3), (mv mo_is (KeepI.below hb) f4), (mv mo_is (KeepI.below hb) f5)⟩
            refine StepsU.run rfl ?_ ?_
            · intro L U wr hF hlk haf A K hA hK
              have HA : Hid (A = putAll _ _ U) := hA
              clear hA
              simp [Aft, Region.binds] at haf
              obtain ⟨fb, fk, fs, oR, oS, f0, f1, f2, f3, f4, f5⟩ := hF
              have e13 : A.tmps[13]? = some (.pointer (some ⟨w12.heap.size + 1, 0, none⟩)) := by rw [HA.out]; kernel_rfl
              obtain ⟨c0, c1, -, -⟩ := oS.two
              refine ⟨?_⟩
              go_simp
              refine hK (upd U 54 (.agg #[.bool xS, .slice aS nS cS])) _ _ ?_ ?_
              · rw [HA.out]; kernel_rfl
              · exact ⟨fb, fk, fs, oR, oS, f0, f1, (fun _ => rfl), f3, f4, f5⟩
            refine StepsU.run rfl ?_ ?_
            · intro L U wr hF hlk haf A K hA hK
              have HA : Hid (A = putAll _ _ U) := hA
              clear hA
              simp [Aft, Region.binds] at haf
              obtain ⟨fb, fk, fs, oR, oS, f0, f1, f2, f3, f4, f5⟩ := hF
              have g2 := f2 (by simp [haf])
              have e54 := rd HA.out 54 (by kernel_rfl) g2
              refine ⟨?_⟩
              go_simp
              refine (sgn_h _ s (1) _ (hS.keepI fk) HS1.out).mono ?_
              rintro e w1 ⟨rfl, hb⟩
              go_simp
              refine hK (upd U 55 (.int .i64 (1))) _ _ ?_ ?_
              · rw [HA.out]; kernel_rfl
              · exact ⟨(fb.step hb (Nat.le_refl _)), (fk.trans (KeepI.below hb)), (Nat.le_trans fs hb.size), (oR.stay hb), (oS.stay hb), (mv mo_is (KeepI.below hb) f0), (mv mo_is (KeepI.below hb) f1), (mv mo_is (KeepI.below hb) f2), (fun _ => rfl), (mv mo_is (KeepI.below hb) f4), (mv mo_is (KeepI.below hb) f5)⟩
            refine StepsU.run rfl ?_ ?_
            · intro L U wr hF hlk haf A K hA hK
              have HA : Hid (A = putAll _ _ U) := hA
              clear hA
              simp [Aft, Region.binds] at haf
              obtain ⟨fb, fk, fs, oR, oS, f0, f1, f2, f3, f4, f5⟩ := hF
              have g1 := f1 (by simp [haf])
              have g3 := f3 (by simp [haf])
              have e53 := rd HA.out 53 (by kernel_rfl) g1
              have e55 := rd HA.out 55 (by kernel_rfl) g3
              refine ⟨?_⟩
              go_simp
              refine hK (upd U 56 (.int .i64 (-1))) _ _ ?_ ?_
              · rw [HA.out]; kernel_rfl
              · exact ⟨fb, fk, fs, oR, oS, f0, f1, f2, f3, (fun _ => rfl), f5⟩
            refine StepsU.run rfl ?_ StepsU.nil
            · intro L U wr hF hlk haf A K hA hK
              have HA : Hid (A = putAll _ _ U) := hA
              clear hA
              simp [Aft, Region.binds] at haf
              obtain ⟨fb, fk, fs, oR, oS, f0, f1, f2, f3, f4, f5⟩ := hF
              have g4 := f4 (by simp [haf])
              have e56 := rd HA.out 56 (by kernel_rfl) rfl
              refine ⟨?_⟩
              go_simp
              refine hK (upd U 4 (U 56)) _ _ ?_ ?_
              · rw [HA.out]; kernel_rfl
              · exact ⟨fb, fk, fs, oR, oS, f0, f1, f2, f3, f4, (fun _ => g4)⟩
          intro L U15 V15 hall hF
          have hbw0 := hbw
          clear hbw
          obtain ⟨hbw, fk, fs, oR, oS, f0, f1, f2, f3, f4, f5⟩ := hF
          have g0 := f0 (hall 0 (by decide))
          have g1 := f1 (hall 1 (by decide))
          have g2 := f2 (hall 2 (by decide))
          have g3 := f3 (hall 3 (by decide))
          have g4 := f4 (hall 4 (by decide))
          have g5 := f5 (hall 5 (by decide))
          clear hall f0 f1 f2 f3 f4 f5
          replace hA := hA.keepI fk
          replace hB := hB.keepI fk
          replace hC := hC.keepI fk
          replace hD := hD.keepI fk
          replace hR := hR.keepI fk
          replace hS := hS.keepI fk
          replace ltR := Nat.lt_of_lt_of_le ltR fs
          replace ltS := Nat.lt_of_lt_of_le ltS fs
          clear g0
          clear g1
          clear g2
          clear g3
          clear g4
          clear hbw0
          simp only [setM_some, setM_none, setM_nil]
          clear ltA oA
          clear ltB oB
          clear ltC oC
          clear ltD oD
          clear fk fs
          have e4 : U15 4 = _ := g5
          try simp only []
          try go_at_K
          repeat (first | go_values | go_skip | go_guarded | go_step | go_upon)
          refine bodyPost_ret (v := (.int .i64 (-1))) (by simp [results, Try.results13, go_sem, e4]) rfl ?_
          exact ⟨by rw [HV.out], hbw⟩
      · have HR0 : Hid (0 < r) := by show _ < _; have := HC.out.2.2.2.1; omega
        have HR1 : Hid (r.sign = 1) := Int.sign_eq_one_of_pos HR0.out
        clear hr0
        obtain ⟨Rc0, Rc1, Rq0, Rq1⟩ := oR.two
        go_wp2_with fail
        refine (sgn_h _ r 1 _ hR HR1.out).mono ?_
        rintro e w14 ⟨rfl, hb⟩
        clear Rc0 Rc1 Rq0 Rq1
        replace oA := oA.stay hb
        replace ltA := oA.lt
        replace oB := oB.stay hb
        replace ltB := oB.lt
        replace oC := oC.stay hb
        replace ltC := oC.lt
        replace oD := oD.stay hb
        replace ltD := oD.lt
        replace oR := oR.stay hb
        replace ltR := oR.lt
        replace oS := oS.stay hb
        replace ltS := oS.lt
        replace hA := hA.below hb
        replace hB := hB.below hb
        replace hC := hC.below hb
        replace hD := hD.below hb
        replace hR := hR.below hb
        replace hS := hS.below hb
        replace hbw := hbw.step hb (Nat.le_refl _)
        clear hb
        by_cases hs0 : s = 0
        · have HS1 : Hid (s.sign = 0) := by show _ = _; rw [hs0]; rfl
          have HS0 : Hid (s = 0) := hs0
          clear hs0
          obtain ⟨Sc0, Sc1, Sq0, Sq1⟩ := oS.two
          go_wp2_with fail
          refine (sgn_h _ s 0 _ hS HS1.out).mono ?_
          rintro e w15 ⟨rfl, hb⟩
          clear Sc0 Sc1 Sq0 Sq1
          replace oA := oA.stay hb
          replace ltA := oA.lt
          replace oB := oB.stay hb
          replace ltB := oB.lt
          replace oC := oC.stay hb
          replace ltC := oC.lt
          replace oD := oD.stay hb
          replace ltD := oD.lt
          replace oR := oR.stay hb
          replace ltR := oR.lt
          replace oS := oS.stay hb
          replace ltS := oS.lt
          replace hA := hA.below hb
          replace hB := hB.below hb
          replace hC := hC.below hb
          replace hD := hD.below hb
          replace hR := hR.below hb
          replace hS := hS.below hb
          replace hbw := hbw.step hb (Nat.le_refl _)
          clear hb
          have HV : Hid (cmpQ x1 y1 = 1) := by
            show _ = _
            rw [← HG.out.2.2.2, HE.out, HS0.out, Int.mul_zero, Int.sub_zero]
            exact Int.sign_eq_one_of_pos (Int.mul_pos HG.out.2.1 HR0.out)
          go_wp2
          refine wp_region_M (by kernel_rfl) [4, 52, 53, 54, 55, 56] [none, none, none, none, some 4, none, none, none, none, none, none, none, none, none, none, none, none, none, none, none, none, none, none, none, none, none, none, none, none, none, none, none, none, none, none, none, none, none, none, none, none, none, none, none, none, none, none, none, none, none, none, none, some 52, some 53, some 54, some 55, some 56] (fun U => by kernel_rfl) (fun L U wr => Below w.heap.size w wr ∧ KeepI w15 wr ∧ w15.heap.size ≤ wr.heap.size ∧ Blk 25 wr (w11.heap.size + 1) #[.bool xR, .slice aR nR cR] ∧ Blk 25 wr (w12.heap.size + 1) #[.bool xS, .slice aS nS cS] ∧ (L 0 = true → IS (.agg #[.bool xR, .slice aR nR cR]) (U 52) wr) ∧ (L 1 = true → IS (.int .i64 (1)) (U 53) wr) ∧ (L 2 = true → IS (.agg #[.bool xS, .slice aS nS cS]) (U 54) wr) ∧ (L 3 = true → IS (.int .i64 (0)) (U 55) wr) ∧ (L 4 = true → IS (.int .i64 (1)) (U 56) wr) ∧ (L 5 = true → IS (.int .i64 (1)) (U 4) wr)) (by kernel_rfl) ?_ ?_ ?_
          · exact fun U => ⟨hbw.drew, KeepI.below (Below.refl _ _).drew, Nat.le_refl _, oR.drew, oS.drew, (fun h => by cases h), (fun h => by cases h), (fun h => by cases h), (fun h => by cases h), (fun h => by cases h), (fun h => by cases h)⟩
          · refine StepsU.run rfl ?_ ?_
            · intro L U wr hF hlk haf A K hA hK
              have HA : Hid (A = putAll _ _ U) := hA
              clear hA
              simp [Aft, Region.binds] at haf
              obtain ⟨fb, fk, fs, oR, oS, f0, f1, f2, f3, f4, f5⟩ := hF
              have e10 : A.tmps[10]? = some (.pointer (some ⟨w11.heap.size + 1, 0, none⟩)) := by rw [HA.out]; kernel_rfl
              obtain ⟨c0, c1, -, -⟩ := oR.two
              refine ⟨?_⟩
              go_simp
              refine hK (upd U 52 (.agg #[.bool xR, .slice aR nR cR])) _ _ ?_ ?_
              · rw [HA.out]; kernel_rfl
              · exact ⟨fb, fk, fs, oR, oS, (fun _ => rfl), f1, f2, f3, f4, f5⟩
            refine StepsU.run rfl ?_ ?_
            · intro L U wr hF hlk haf A K hA hK
              have HA : Hid (A = putAll _ _ U) := hA
              clear hA
              simp [Aft, Region.binds] at haf
              obtain ⟨fb, fk, fs, oR, oS, f0, f1, f2, f3, f4, f5⟩ := hF
              have g0 := f0 (by simp [haf])
              have e52 := rd HA.out 52 (by kernel_rfl) g0
              refine ⟨?_⟩
              go_simp
              refine (sgn_h _ r (1) _ (hR.keepI fk) HR1.out).mono ?_
              rintro e w1 ⟨rfl, hb⟩
              go_simp
              refine hK (upd U 53 (.int .i64 (1))) _ _ ?_ ?_
              · rw [HA.out]; kernel_rfl
              · exact ⟨(fb.step hb (Nat.le_refl _)), (fk.trans (KeepI.below hb)), (Nat.le_trans fs hb.size), (oR.stay hb), (oS.stay hb), (mv mo_is (KeepI.below hb) f0), (fun _ => rfl), (mv mo_is (KeepI.below hb) f2), (mv mo_is (KeepI.below hb) f3), (mv mo_is (KeepI.below hb) f4), (mv mo_is (KeepI.below hb) f5)⟩
            refine StepsU.run rfl ?_ ?_
            · intro L U wr hF hlk haf A K hA hK
              have HA : Hid (A = putAll _ _ U) := hA
              clear hA
              simp [Aft, Region.binds] at haf
              obtain ⟨fb, fk, fs, oR, oS, f0, f1, f2, f3, f4, f5⟩ := hF
              have e13 : A.tmps[13]? = some (.pointer (some ⟨w12.heap.size + 1, 0, none⟩)) := by rw [HA.out]; kernel_rfl
              obtain ⟨c0, c1, -, -⟩ := oS.two
              refine ⟨?_⟩
              go_simp
              refine hK (upd U 54 (.agg #[.bool xS, .slice aS nS cS])) _ _ ?_ ?_
              · rw [HA.out]; kernel_rfl
              · exact ⟨fb, fk, fs, oR, oS, f0, f1, (fun _ => rfl), f3, f4, f5⟩
            refine StepsU.run rfl ?_ ?_
            · intro L U wr hF hlk haf A K hA hK
              have HA : Hid (A = putAll _ _ U) := hA
              clear hA
              simp [Aft, Region.binds] at haf
              obtain ⟨fb, fk, fs, oR, oS, f0, f1, f2, f3, f4, f5⟩ := hF
              have g2 := f2 (by simp [haf])
              have e54 := rd HA.out 54 (by kernel_rfl) g2
              refine ⟨?_⟩
              go_simp
              refine (sgn_h _ s (0) _ (hS.keepI fk) HS1.out).mono ?_
              rintro e w1 ⟨rfl, hb⟩
              go_simp
              refine hK (upd U 55 (.int .i64 (0))) _ _ ?_ ?_
              · rw [HA.out]; kernel_rfl
              · exact ⟨(fb.step hb (Nat.le_refl _)), (fk.trans (KeepI.below hb)), (Nat.le_trans fs hb.size), (oR.stay hb), (oS.stay hb), (mv mo_is (KeepI.below hb) f0), (mv mo_is (KeepI.below hb) f1), (mv mo_is (KeepI.below hb) f2), (fun _ => rfl), (mv mo_is (KeepI.below hb) f4), (mv mo_is (KeepI.below hb) f5)⟩
            refine StepsU.run rfl ?_ ?_
            · intro L U wr hF hlk haf A K hA hK
              have HA : Hid (A = putAll _ _ U) := hA
              clear hA
              simp [Aft, Region.binds] at haf
              obtain ⟨fb, fk, fs, oR, oS, f0, f1, f2, f3, f4, f5⟩ := hF
              have g1 := f1 (by simp [haf])
              have g3 := f3 (by simp [haf])
              have e53 := rd HA.out 53 (by kernel_rfl) g1
              have e55 := rd HA.out 55 (by kernel_rfl) g3
              refine ⟨?_⟩
              go_simp
              refine hK (upd U 56 (.int .i64 (1))) _ _ ?_ ?_
              · rw [HA.out]; kernel_rfl
              · exact ⟨fb, fk, fs, oR, oS, f0, f1, f2, f3, (fun _ => rfl), f5⟩
            refine StepsU.run rfl ?_ StepsU.nil
            · intro L U wr hF hlk haf A K hA hK
              have HA : Hid (A = putAll _ _ U) := hA
              clear hA
              simp [Aft, Region.binds] at haf
              obtain ⟨fb, fk, fs, oR, oS, f0, f1, f2, f3, f4, f5⟩ := hF
              have g4 := f4 (by simp [haf])
              have e56 := rd HA.out 56 (by kernel_rfl) rfl
              refine ⟨?_⟩
              go_simp
              refine hK (upd U 4 (U 56)) _ _ ?_ ?_
              · rw [HA.out]; kernel_rfl
              · exact ⟨fb, fk, fs, oR, oS, f0, f1, f2, f3, f4, (fun _ => g4)⟩
          intro L U16 V16 hall hF
          have hbw0 := hbw
          clear hbw
          obtain ⟨hbw, fk, fs, oR, oS, f0, f1, f2, f3, f4, f5⟩ := hF
          have g0 := f0 (hall 0 (by decide))
          have g1 := f1 (hall 1 (by decide))
          have g2 := f2 (hall 2 (by decide))
          have g3 := f3 (hall 3 (by decide))
          have g4 := f4 (hall 4 (by decide))
          have g5 := f5 (hall 5 (by decide))
          clear hall f0 f1 f2 f3 f4 f5
          replace hA := hA.keepI fk
          replace hB := hB.keepI fk
          replace hC := hC.keepI fk
          replace hD := hD.keepI fk
          replace hR := hR.keepI fk
          replace hS := hS.keepI fk
          replace ltR := Nat.lt_of_lt_of_le ltR fs
          replace ltS := Nat.lt_of_lt_of_le ltS fs
          clear g0
          clear g1
          clear g2
          clear g3
          clear g4
          clear hbw0
          simp only [setM_some, setM_none, setM_nil]
          clear ltA oA
          clear ltB oB
          clear ltC oC
          clear ltD oD
          clear fk fs
          have e4 : U16 4 = _ := g5
          try simp only []
          try go_at_K
          repeat (first | go_values | go_skip | go_guarded | go_step | go_upon)
          refine bodyPost_ret (v := (.int .i64 (1))) (by simp [results, Try.results13, go_sem, e4]) rfl ?_
          exact ⟨by rw [HV.out], hbw⟩
        · have HS0 : Hid (0 < s) := by show _ < _; have := HC.out.2.2.2.2.2.1; omega
          have HS1 : Hid (s.sign = 1) := Int.sign_eq_one_of_pos HS0.out
          clear hs0
          obtain ⟨Sc0, Sc1, Sq0, Sq1⟩ := oS.two
          go_wp2_with fail
          refine (sgn_h _ s 1 _ hS HS1.out).mono ?_
          rintro e w15 ⟨rfl, hb⟩
          clear Sc0 Sc1 Sq0 Sq1
          replace oA := oA.stay hb
          replace ltA := oA.lt
          replace oB := oB.stay hb
          replace ltB := oB.lt
          replace oC := oC.stay hb
          replace ltC := oC.lt
          replace oD := oD.stay hb
          replace ltD := oD.lt
          replace oR := oR.stay hb
          replace ltR := oR.lt
          replace oS := oS.stay hb
          replace ltS := oS.lt
          replace hA := hA.below hb
          replace hB := hB.below hb
          replace hC := hC.below hb
          replace hD := hD.below hb
          replace hR := hR.below hb
          replace hS := hS.below hb
          replace hbw := hbw.step hb (Nat.le_refl _)
          clear hb
          go_wp2
          have rA := oA
          clear oA
          have geA : w.heap.size ≤ bA := by omega
          have rB := oB
          clear oB
          have geB : w.heap.size ≤ bB := by omega
          have neBA := neAB.symm
          have rC := oC
          clear oC
          have geC : w.heap.size ≤ bC := by omega
          have neCA := neAC.symm
          have neCB := neBC.symm
          have rD := oD
          clear oD
          have geD : w.heap.size ≤ bD := by omega
          have neDA := neAD.symm
          have neDB := neBD.symm
          have neDC := neCD.symm
          refine wp_region_M (by kernel_rfl) [57, 58, 59, 60] [none, none, none, none, none, none, none, none, none, none, none, none, none, none, none, none, none, none, none, none, none, none, none, none, none, none, none, none, none, none, none, none, none, none, none, none, none, none, none, none, none, none, none, none, none, none, none, none, none, none, none, none, none, none, none, none, none, some 57, some 58, some 59, some 60] (fun U => by kernel_rfl) (fun L U wr => Below w.heap.size w wr ∧ KeepI w15 wr ∧ w15.heap.size ≤ wr.heap.size ∧ Blk 25 wr (w12.heap.size + 1) #[.bool xS, .slice aS nS cS] ∧ Blk 25 wr (w11.heap.size + 1) #[.bool xR, .slice aR nR cR] ∧ BlkV 25 wr (bA) (bif L 4 then U 57 else .agg #[.bool xA, .slice aA nA cA]) ∧ BlkV 25 wr (bB) (bif L 5 then U 58 else .agg #[.bool xB, .slice aB nB cB]) ∧ BlkV 25 wr (bC) (bif L 6 then U 59 else .agg #[.bool xC, .slice aC nC cC]) ∧ BlkV 25 wr (bD) (bif L 7 then U 60 else .agg #[.bool xD, .slice aD nD cD]) ∧ (L 0 = true → IS (.agg #[.bool xD, .slice aD nD cD]) (U 57) wr) ∧ (L 1 = true → IS (.agg #[.bool xS, .slice aS nS cS]) (U 58) wr) ∧ (L 2 = true → IS (.agg #[.bool xB, .slice aB nB cB]) (U 59) wr) ∧ (L 3 = true → IS (.agg #[.bool xR, .slice aR nR cR]) (U 60) wr) ∧ (L 4 = true → L 0 = true) ∧ (L 5 = true → L 1 = true) ∧ (L 6 = true → L 2 = true) ∧ (L 7 = true → L 3 = true) ∧ (L 7 = true → L 0 = true) ∧ (L 5 = true → L 2 = true)) (by kernel_rfl) ?_ ?_ ?_
          · exact fun U => ⟨hbw.drew, KeepI.below (Below.refl _ _).drew, Nat.le_refl _, oS.drew, oR.drew, ⟨_, rfl, rA.drew⟩, ⟨_, rfl, rB.drew⟩, ⟨_, rfl, rC.drew⟩, ⟨_, rfl, rD.drew⟩, (fun h => by cases h), (fun h => by cases h), (fun h => by cases h), (fun h => by cases h), (fun h => by cases h), (fun h => by cases h), (fun h => by cases h), (fun h => by cases h), (fun h => by cases h), (fun h => by cases h)⟩
          · refine StepsU.run rfl ?_ ?_
            · intro L U wr hF hlk haf A K hA hK
              have HA : Hid (A = putAll _ _ U) := hA
              clear hA
              simp [Aft, Region.binds] at haf
              obtain ⟨fb, fk, fs, oS, oR, rA, rB, rC, rD, f0, f1, f2, f3, s4, s5, s6, s7, y0, y2⟩ := hF
              have e8 : A.tmps[8]? = some (.pointer (some ⟨bD, 0, none⟩)) := by rw [HA.out]; kernel_rfl
              have hst : L 7 = false := by cases h : L 7 with | false => rfl | true => rw [y0 h] at hlk; cases hlk
              have rV := rD
              rw [hst, cond_false] at rV
              obtain ⟨cs, hcs, hblk⟩ := rV
              injection hcs with hcs
              subst hcs
              obtain ⟨c0, c1, -, -⟩ := hblk.two
              refine ⟨?_⟩
              go_simp
              have hs4 : L 4 = false := by cases h : L 4 with | false => rfl | true => rw [s4 h] at hlk; cases hlk
              refine hK (upd U 57 (.agg #[.bool xD, .slice aD nD cD])) _ _ ?_ ?_
              · rw [HA.out]; kernel_rfl
              · exact ⟨fb, fk, fs, oS, oR, (flip_v (P := fun v => BlkV _ _ _ v) hs4 rA), rB, rC, rD, (fun _ => rfl), f1, f2, f3, (fun _ => rfl), s5, s6, s7, (fun _ => rfl), y2⟩
            refine StepsU.run rfl ?_ ?_
            · intro L U wr hF hlk haf A K hA hK
              have HA : Hid (A = putAll _ _ U) := hA
              clear hA
              simp [Aft, Region.binds] at haf
              obtain ⟨fb, fk, fs, oS, oR, rA, rB, rC, rD, f0, f1, f2, f3, s4, s5, s6, s7, y0, y2⟩ := hF
              have e13 : A.tmps[13]? = some (.pointer (some ⟨w12.heap.size + 1, 0, none⟩)) := by rw [HA.out]; kernel_rfl
              obtain ⟨c0, c1, -, -⟩ := oS.two
              refine ⟨?_⟩
              go_simp
              have hs5 : L 5 = false := by cases h : L 5 with | false => rfl | true => rw [s5 h] at hlk; cases hlk
              refine hK (upd U 58 (.agg #[.bool xS, .slice aS nS cS])) _ _ ?_ ?_
              · rw [HA.out]; kernel_rfl
              · exact ⟨fb, fk, fs, oS, oR, rA, (flip_v (P := fun v => BlkV _ _ _ v) hs5 rB), rC, rD, f0, (fun _ => rfl), f2, f3, s4, (fun _ => rfl), s6, s7, y0, y2⟩
            refine StepsU.run rfl ?_ ?_
            · intro L U wr hF hlk haf A K hA hK
              have HA : Hid (A = putAll _ _ U) := hA
              clear hA
              simp [Aft, Region.binds] at haf
              obtain ⟨fb, fk, fs, oS, oR, rA, rB, rC, rD, f0, f1, f2, f3, s4, s5, s6, s7, y0, y2⟩ := hF
              have e6 : A.tmps[6]? = some (.pointer (some ⟨bB, 0, none⟩)) := by rw [HA.out]; kernel_rfl
              have hst : L 5 = false := by cases h : L 5 with | false => rfl | true => rw [y2 h] at hlk; cases hlk
              have rV := rB
              rw [hst, cond_false] at rV
              obtain ⟨cs, hcs, hblk⟩ := rV
              injection hcs with hcs
              subst hcs
              obtain ⟨c0, c1, -, -⟩ := hblk.two
              refine ⟨?_⟩
              go_simp
              have hs6 : L 6 = false := by cases h : L 6 with | false => rfl | true => rw [s6 h] at hlk; cases hlk
              refine hK (upd U 59 (.agg #[.bool xB, .slice aB nB cB])) _ _ ?_ ?_
              · rw [HA.out]; kernel_rfl
              · exact ⟨fb, fk, fs, oS, oR, rA, rB, (flip_v (P := fun v => BlkV _ _ _ v) hs6 rC), rD, f0, f1, (fun _ => rfl), f3, s4, s5, (fun _ => rfl), s7, y0, (fun _ => rfl)⟩
            refine StepsU.run rfl ?_ ?_
            · intro L U wr hF hlk haf A K hA hK
              have HA : Hid (A = putAll _ _ U) := hA
              clear hA
              simp [Aft, Region.binds] at haf
              obtain ⟨fb, fk, fs, oS, oR, rA, rB, rC, rD, f0, f1, f2, f3, s4, s5, s6, s7, y0, y2⟩ := hF
              have e10 : A.tmps[10]? = some (.pointer (some ⟨w11.heap.size + 1, 0, none⟩)) := by rw [HA.out]; kernel_rfl
              obtain ⟨c0, c1, -, -⟩ := oR.two
              refine ⟨?_⟩
              go_simp
              have hs7 : L 7 = false := by cases h : L 7 with | false => rfl | true => rw [s7 h] at hlk; cases hlk
              refine hK (upd U 60 (.agg #[.bool xR, .slice aR nR cR])) _ _ ?_ ?_
              · rw [HA.out]; kernel_rfl
              · exact ⟨fb, fk, fs, oS, oR, rA, rB, rC, (flip_v (P := fun v => BlkV _ _ _ v) hs7 rD), f0, f1, f2, (fun _ => rfl), s4, s5, s6, (fun _ => rfl), y0, y2⟩
            refine StepsU.run rfl ?_ ?_
            · intro L U wr hF hlk haf A K hA hK
              have HA : Hid (A = putAll _ _ U) := hA
              clear hA
              simp [Aft, Region.binds] at haf
              obtain ⟨fb, fk, fs, oS, oR, rA, rB, rC, rD, f0, f1, f2, f3, s4, s5, s6, s7, y0, y2⟩ := hF
              have g0 := f0 (by simp [haf])
              have hsrc := g0
              have e57 := rd HA.out 57 (by kernel_rfl) hsrc
              have e5 : A.tmps[5]? = some (.pointer (some ⟨bA, 0, none⟩)) := by rw [HA.out]; kernel_rfl
              simp only [hlk, cond_false] at rA
              obtain ⟨cs, hcs, hblk⟩ := rA
              injection hcs with hcs
              subst hcs
              obtain ⟨c0, c1, q0, q1⟩ := hblk.two
              refine ⟨?_⟩
              go_simp
              have hk := keepI_two hblk xD aD nD cD
              refine hK U _ _ ?_ ?_
              · exact HA.out
              · exact ⟨(below_store2 fb geA _ _), (fk.trans hk), (by simpa using fs), (oS.other2 neAS _ _), (oR.other2 neAR _ _), (stored_old hsrc (hblk.over2 _ _)), (rB.other2 neAB _ _), (rC.other2 neAC _ _), (rD.other2 neAD _ _), (mv mo_is hk f0), (mv mo_is hk f1), (mv mo_is hk f2), (mv mo_is hk f3), (fun _ => by simp [haf]), s5, s6, s7, y0, y2⟩
            refine StepsU.run rfl ?_ ?_
            · intro L U wr hF hlk haf A K hA hK
              have HA : Hid (A = putAll _ _ U) := hA
              clear hA
              simp [Aft, Region.binds] at haf
              obtain ⟨fb, fk, fs, oS, oR, rA, rB, rC, rD, f0, f1, f2, f3, s4, s5, s6, s7, y0, y2⟩ := hF
              have g1 := f1 (by simp [haf])
              have hsrc := g1
              have e58 := rd HA.out 58 (by kernel_rfl) hsrc
              have e6 : A.tmps[6]? = some (.pointer (some ⟨bB, 0, none⟩)) := by rw [HA.out]; kernel_rfl
              simp only [hlk, cond_false] at rB
              obtain ⟨cs, hcs, hblk⟩ := rB
              injection hcs with hcs
              subst hcs
              obtain ⟨c0, c1, q0, q1⟩ := hblk.two
              refine ⟨?_⟩
              go_simp
              have hk := keepI_two hblk xS aS nS cS
              refine hK U _ _ ?_ ?_
              · exact HA.out
              · exact ⟨(below_store2 fb geB _ _), (fk.trans hk), (by simpa using fs), (oS.other2 neBS _ _), (oR.other2 neBR _ _), (rA.other2 neBA _ _), (stored_old hsrc (hblk.over2 _ _)), (rC.other2 neBC _ _), (rD.other2 neBD _ _), (mv mo_is hk f0), (mv mo_is hk f1), (mv mo_is hk f2), (mv mo_is hk f3), s4, (fun _ => by simp [haf]), s6, s7, y0, (fun _ => by simp [haf])⟩
            refine StepsU.run rfl ?_ ?_
            · intro L U wr hF hlk haf A K hA hK
              have HA : Hid (A = putAll _ _ U) := hA
              clear hA
              simp [Aft, Region.binds] at haf
              obtain ⟨fb, fk, fs, oS, oR, rA, rB, rC, rD, f0, f1, f2, f3, s4, s5, s6, s7, y0, y2⟩ := hF
              have g2 := f2 (by simp [haf])
              have hsrc := g2
              have e59 := rd HA.out 59 (by kernel_rfl) hsrc
              have e7 : A.tmps[7]? = some (.pointer (some ⟨bC, 0, none⟩)) := by rw [HA.out]; kernel_rfl
              simp only [hlk, cond_false] at rC
              obtain ⟨cs, hcs, hblk⟩ := rC
              injection hcs with hcs
              subst hcs
              obtain ⟨c0, c1, q0, q1⟩ := hblk.two
              refine ⟨?_⟩
              go_simp
              have hk := keepI_two hblk xB aB nB cB
              refine hK U _ _ ?_ ?_
              · exact HA.out
              · exact ⟨(below_store2 fb geC _ _), (fk.trans hk), (by simpa using fs), (oS.other2 neCS _ _), (oR.other2 neCR _ _), (rA.other2 neCA _ _), (rB.other2 neCB _ _), (stored_old hsrc (hblk.over2 _ _)), (rD.other2 neCD _ _), (mv mo_is hk f0), (mv mo_is hk f1), (mv mo_is hk f2), (mv mo_is hk f3), s4, s5, (fun _ => by simp [haf]), s7, y0, y2⟩
            refine StepsU.run rfl ?_ StepsU.nil
            · intro L U wr hF hlk haf A K hA hK
              have HA : Hid (A = putAll _ _ U) := hA
              clear hA
              simp [Aft, Region.binds] at haf
              obtain ⟨fb, fk, fs, oS, oR, rA, rB, rC, rD, f0, f1, f2, f3, s4, s5, s6, s7, y0, y2⟩ := hF
              have g3 := f3 (by simp [haf])
              have hsrc := g3
              have e60 := rd HA.out 60 (by kernel_rfl) hsrc
              have e8 : A.tmps[8]? = some (.pointer (some ⟨bD, 0, none⟩)) := by rw [HA.out]; kernel_rfl
              simp only [hlk, cond_false] at rD
              obtain ⟨cs, hcs, hblk⟩ := rD
              injection hcs with hcs
              subst hcs
              obtain ⟨c0, c1, q0, q1⟩ := hblk.two
              refine ⟨?_⟩
              go_simp
              have hk := keepI_two hblk xR aR nR cR
              refine hK U _ _ ?_ ?_
              · exact HA.out
              · exact ⟨(below_store2 fb geD _ _), (fk.trans hk), (by simpa using fs), (oS.other2 neDS _ _), (oR.other2 neDR _ _), (rA.other2 neDA _ _), (rB.other2 neDB _ _), (rC.other2 neDC _ _), (stored_old hsrc (hblk.over2 _ _)), (mv mo_is hk f0), (mv mo_is hk f1), (mv mo_is hk f2), (mv mo_is hk f3), s4, s5, s6, (fun _ => by simp [haf]), (fun _ => by simp [haf]), y2⟩
          intro L U16 V16 hall hF
          have hbw0 := hbw
          clear hbw
          obtain ⟨hbw, fk, fs, oS, oR, rA, rB, rC, rD, f0, f1, f2, f3, s4, s5, s6, s7, y0, y2⟩ := hF
          clear s4 s5 s6 s7 y0 y2
          have g0 := f0 (hall 0 (by decide))
          have g1 := f1 (hall 1 (by decide))
          have g2 := f2 (hall 2 (by decide))
          have g3 := f3 (hall 3 (by decide))
          rw [hall 4 (by decide), cond_true] at rA
          rw [hall 5 (by decide), cond_true] at rB
          rw [hall 6 (by decide), cond_true] at rC
          rw [hall 7 (by decide), cond_true] at rD
          clear hall f0 f1 f2 f3
          replace hA := hA.keepI fk
          replace hB := hB.keepI fk
          replace hC := hC.keepI fk
          replace hD := hD.keepI fk
          replace hR := hR.keepI fk
          replace hS := hS.keepI fk
          replace ltS := Nat.lt_of_lt_of_le ltS fs
          replace ltR := Nat.lt_of_lt_of_le ltR fs
          replace ltA := Nat.lt_of_lt_of_le ltA fs
          replace ltB := Nat.lt_of_lt_of_le ltB fs
          replace ltC := Nat.lt_of_lt_of_le ltC fs
          replace ltD := Nat.lt_of_lt_of_le ltD fs
          clear hbw0
          simp only [setM_some, setM_none, setM_nil]
          clear fk fs
          rw [show U16 57 = _ from g0] at rA
          obtain ⟨csA, hcsA, oA⟩ := rA
          injection hcsA with hcsA
          subst hcsA
          rw [show U16 58 = _ from g1] at rB
          obtain ⟨csB, hcsB, oB⟩ := rB
          injection hcsB with hcsB
          subst hcsB
          rw [show U16 59 = _ from g2] at rC
          obtain ⟨csC, hcsC, oC⟩ := rC
          injection hcsC with hcsC
          subst hcsC
          rw [show U16 60 = _ from g3] at rD
          obtain ⟨csD, hcsD, oD⟩ := rD
          injection hcsD with hcsD
          subst hcsD
          go_wp2
          go_roundg (s + r).toNat
          case measure => have h1 := HG.out.2.2.1; have h2 := HC.out.2.2.2; omega
          case rel =>
            refine ⟨_, _, _, _, _, _, _, _, _, _, _, _, _, _, _, _, zd, s, zb, r, oA, hD, oB, hS, oC, hB, oD, hR, ⟨HS0.out, HR0.out, rfl, ?_⟩, hbw⟩
            rw [← HG.out.2.2.2, HE.out]
    · have HR : Hid (cmpQ x1 y1 = 1) := by show _ = _; rw [← HG.out.2.2.2]; exact HC.out.2.1 hpq
      have HD : Hid ((p - q).sign = 1) := Int.sign_eq_one_of_pos (by omega)
      clear hpq
      obtain ⟨Pc0, Pc1, Pq0, Pq1⟩ := oP.two
      obtain ⟨Qc0, Qc1, Qq0, Qq1⟩ := oQ.two
      go_wp2_with fail
      refine (cmp_h _ _ p q 1 _ hP hQ HD.out).mono ?_
      rintro e w13 ⟨rfl, hb⟩
      clear Pc0 Pc1 Pq0 Pq1
      clear Qc0 Qc1 Qq0 Qq1
      replace oA := oA.stay hb
      replace ltA := oA.lt
      replace oB := oB.stay hb
      replace ltB := oB.lt
      replace oC := oC.stay hb
      replace ltC := oC.lt
      replace oD := oD.stay hb
      replace ltD := oD.lt
      replace oP := oP.stay hb
      replace ltP := oP.lt
      replace oR := oR.stay hb
      replace ltR := oR.lt
      replace oQ := oQ.stay hb
      replace ltQ := oQ.lt
      replace oS := oS.stay hb
      replace ltS := oS.lt
      replace hA := hA.below hb
      replace hB := hB.below hb
      replace hC := hC.below hb
      replace hD := hD.below hb
      replace hP := hP.below hb
      replace hR := hR.below hb
      replace hQ := hQ.below hb
      replace hS := hS.below hb
      replace hbw := hbw.step hb (Nat.le_refl _)
      clear hb
      go_wp2
      refine bodyPost_ret (v := (.int .i64 1)) (by simp [results, Try.results13, go_sem]) rfl ?_
      exact ⟨by rw [HR.out], hbw⟩

end Go.Proofs.Ytidpbdhhbeaijab
