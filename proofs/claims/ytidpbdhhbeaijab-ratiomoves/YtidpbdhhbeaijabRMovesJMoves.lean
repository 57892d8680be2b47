/- The walk of suretylaw02.RatioMoves: it answers true at every input. -/
import Derived.Test.YtidpbdhhbeaijabL0JMoves
import Derived.Test.YtidpbdhhbeaijabQ4JMoves
namespace Go.Proofs.Ytidpbdhhbeaijab
open Go.RowKit
theorem qnum_z (v : Value) (q : Rat) (z : Int) (w : World) (hv : QV w v q) (hz' : q.num = z) :
    Calls Try.prog 22 #[v] w fun e w' => ∃ s a n c, e = .returned (.agg #[.bool s, .slice a n c]) ∧ AInt w' (.agg #[.bool s, .slice a n c]) z ∧ Below w.heap.size w w' := by
  subst hz'
  exact qnum_any v q w hv
theorem addC_zz {x y : Rat} (h : addC x y = 0) : addZ x y = x + y := by
  unfold addC at h
  split at h
  · rename_i k; exact addZ_yes k
  · cases h

set_option maxRecDepth 20000 in
set_option maxHeartbeats 16000000 in
theorem ratioMoves_any (s t : ByteArray) (w : World) (hs : s.size ≤ maxLen) (ht : t.size ≤ maxLen) :
    Calls Try.prog 7 #[.string s, .string t] w fun e w' => e = .returned (.bool true) ∧ Below w.heap.size w w' := by
  have hbw := Below.refl w.heap.size w
  go_enter Try.func7, Try.ntmps7
  go_wp2_with fail
  refine (awake2_any _).mono ?_
  rintro e w1 ⟨rfl, hb⟩
  replace hbw := hbw.step hb (Nat.le_refl _)
  clear hb
  go_wp2_with fail
  refine (rat_any s _ hs).mono ?_
  rintro e w2 ⟨q, xA, aA, nA, cA, yA, eA, mA, fA, xAr, aAr, nAr, cAr, yAr, eAr, mAr, fAr, rfl, hA, hAr, hb⟩
  replace hbw := hbw.step hb (Nat.le_refl _)
  clear hb
  have hn := below_new w2 (.cells #[.bool xA, .slice aA nA cA, .bool yA, .slice eA mA fA] 27 (0, 0))
  have oA := Blk.new w2 27 #[.bool xA, .slice aA nA cA, .bool yA, .slice eA mA fA]
  have lwA : w.heap.size ≤ w2.heap.size := hbw.size
  replace hA := hA.below hn
  replace hAr := hAr.below hn
  replace hbw := hbw.step hn (Nat.le_refl _)
  clear hn
  have ltA := oA.lt
  have hn := below_new (w2.alloc (.cells #[.bool xA, .slice aA nA cA, .bool yA, .slice eA mA fA] 27 (0, 0))) (.cells #[.bool xAr, .slice aAr nAr cAr, .bool yAr, .slice eAr mAr fAr] 32 (0, 0))
  have oAr := Blk.new (w2.alloc (.cells #[.bool xA, .slice aA nA cA, .bool yA, .slice eA mA fA] 27 (0, 0))) 32 #[.bool xAr, .slice aAr nAr cAr, .bool yAr, .slice eAr mAr fAr]
  simp only [World.size_alloc] at oAr
  have neAAr : w2.heap.size ≠ w2.heap.size + 1 := by have := ltA; simp at this; omega
  replace oA := oA.stay hn
  replace ltA := oA.lt
  replace hA := hA.below hn
  replace hAr := hAr.below hn
  replace hbw := hbw.step hn (Nat.le_refl _)
  clear hn
  have ltAr := oAr.lt
  clear ltAr oAr
  clear hAr
  go_wp2_with fail
  refine (rat_any t _ ht).mono ?_
  rintro e w3 ⟨p, xC, aC, nC, cC, yC, eC, mC, fC, xCr, aCr, nCr, cCr, yCr, eCr, mCr, fCr, rfl, hC, hCr, hb⟩
  replace oA := oA.stay hb
  replace ltA := oA.lt
  replace hA := hA.below hb
  replace hbw := hbw.step hb (Nat.le_refl _)
  clear hb
  have hn := below_new w3 (.cells #[.bool xC, .slice aC nC cC, .bool yC, .slice eC mC fC] 27 (0, 0))
  have oC := Blk.new w3 27 #[.bool xC, .slice aC nC cC, .bool yC, .slice eC mC fC]
  have neAC : w2.heap.size ≠ w3.heap.size := Nat.ne_of_lt ltA
  have lwC : w.heap.size ≤ w3.heap.size := hbw.size
  replace oA := oA.stay hn
  replace ltA := oA.lt
  replace hA := hA.below hn
  replace hC := hC.below hn
  replace hCr := hCr.below hn
  replace hbw := hbw.step hn (Nat.le_refl _)
  clear hn
  have ltC := oC.lt
  have hn := below_new (w3.alloc (.cells #[.bool xC, .slice aC nC cC, .bool yC, .slice eC mC fC] 27 (0, 0))) (.cells #[.bool xCr, .slice aCr nCr cCr, .bool yCr, .slice eCr mCr fCr] 32 (0, 0))
  have oCr := Blk.new (w3.alloc (.cells #[.bool xC, .slice aC nC cC, .bool yC, .slice eC mC fC] 27 (0, 0))) 32 #[.bool xCr, .slice aCr nCr cCr, .bool yCr, .slice eCr mCr fCr]
  simp only [World.size_alloc] at oCr
  have neACr : w2.heap.size ≠ w3.heap.size + 1 := by have := ltA; simp at this; omega
  have neCCr : w3.heap.size ≠ w3.heap.size + 1 := by have := ltC; simp at this; omega
  replace oA := oA.stay hn
  replace ltA := oA.lt
  replace oC := oC.stay hn
  replace ltC := oC.lt
  replace hA := hA.below hn
  replace hC := hC.below hn
  replace hCr := hCr.below hn
  replace hbw := hbw.step hn (Nat.le_refl _)
  clear hn
  have ltCr := oCr.lt
  clear ltCr oCr
  clear hCr
  obtain ⟨k, HK⟩ : ∃ k, Hid (p.num = k) := ⟨_, rfl⟩
  obtain ⟨fl, HF⟩ : ∃ k, Hid (q.floor = k) := ⟨_, rfl⟩
  obtain ⟨cl, HL⟩ : ∃ k, Hid (q.ceil = k) := ⟨_, rfl⟩
  go_wp2
  generalize ((w3.alloc (.cells #[.bool xC, .slice aC nC cC, .bool yC, .slice eC mC fC] 27 (0, 0))).alloc (.cells #[.bool xCr, .slice aCr nCr cCr, .bool yCr, .slice eCr mCr fCr] 32 (0, 0))) = W3 at hbw oA oC ltA ltC hA hC ⊢
  refine wp_region_M (by kernel_rfl) [9, 10, 27, 28, 29, 30, 31, 32, 33, 34] [none, none, none, none, none, none, none, none, none, some 9, some 10, none, none, none, none, none, none, none, none, none, none, none, none, none, none, none, none, some 27, some 28, some 29, some 30, some 31, some 32, some 33, some 34] (fun U => by kernel_rfl) (fun L U wr => Below w.heap.size w wr ∧ KeepI W3 wr ∧ W3.heap.size ≤ wr.heap.size ∧ Blk 27 wr (w2.heap.size) #[.bool xA, .slice aA nA cA, .bool yA, .slice eA mA fA] ∧ Blk 27 wr (w3.heap.size) #[.bool xC, .slice aC nC cC, .bool yC, .slice eC mC fC] ∧ (L 0 = true → IS (.agg #[.bool xA, .slice aA nA cA, .bool yA, .slice eA mA fA]) (U 28) wr) ∧ (L 1 = true → IS (.agg #[.bool xC, .slice aC nC cC, .bool yC, .slice eC mC fC]) (U 29) wr) ∧ (L 2 = true → INT k (U 30) wr) ∧ (L 3 = true → RAT (k : Rat) (U 31) wr) ∧ (L 4 = true → T2 (RAT (addZ q (k : Rat))) (IS (.int .i64 (addC q (k : Rat)))) (U 32) wr) ∧ (L 5 = true → T2 (RAT (addZ q (k : Rat))) (IS (.int .i64 (addC q (k : Rat)))) (U 27) wr) ∧ (L 6 = true → RAT (addZ q (k : Rat)) (U 33) wr) ∧ (L 7 = true → IS (.int .i64 (addC q (k : Rat))) (U 34) wr) ∧ (L 8 = true → NEW 27 W3.heap.size wr (U 9) (bif L 9 then U 33 else .agg #[.bool false, .slice none 0 0, .bool false, .slice none 0 0])) ∧ (L 10 = true → IS (.int .i64 (addC q (k : Rat))) (U 10) wr) ∧ (L 9 = true → L 6 = true) ∧ (L 9 = true → L 8 = true)) (by kernel_rfl) ?_ ?_ ?_
  · exact fun U => ⟨hbw.drew, KeepI.below (Below.refl _ _).drew, Nat.le_refl _, oA.drew, oC.drew, (fun h => by cases h), (fun h => by cases h), (fun h => by cases h), (fun h => by cases h), (fun h => by cases h), (fun h => by cases h), (fun h => by cases h), (fun h => by cases h), (fun h => by cases h), (fun h => by cases h), (fun h => by cases h), (fun h => by cases h)⟩
  · refine StepsU.run rfl ?_ ?_
    · intro L U wr hF hlk haf A K hA hK
      have HA : Hid (A = putAll _ _ U) := hA
      clear hA
      simp [Aft, Region.binds] at haf
      obtain ⟨fb, fk, fs, oA, oC, f0, f1, f2, f3, f4, f5, f6, f7, f8, f10, s9, m8⟩ := hF
      have e5 : A.tmps[5]? = some (.pointer (some ⟨w2.heap.size, 0, none⟩)) := by rw [HA.out]; kernel_rfl
      obtain ⟨c0, c1, c2, c3⟩ := oA.four
      refine ⟨?_⟩
      go_simp
      refine hK (upd U 28 (.agg #[.bool xA, .slice aA nA cA, .bool yA, .slice eA mA fA])) _ _ ?_ ?_
      · rw [HA.out]; kernel_rfl
      · exact ⟨fb, fk, fs, oA, oC, (fun _ => rfl), f1, f2, f3, f4, f5, f6, f7, f8, f10, s9, m8⟩
    refine StepsU.run rfl ?_ ?_
    · intro L U wr hF hlk haf A K hA hK
      have HA : Hid (A = putAll _ _ U) := hA
      clear hA
      simp [Aft, Region.binds] at haf
      obtain ⟨fb, fk, fs, oA, oC, f0, f1, f2, f3, f4, f5, f6, f7, f8, f10, s9, m8⟩ := hF
      have e7 : A.tmps[7]? = some (.pointer (some ⟨w3.heap.size, 0, none⟩)) := by rw [HA.out]; kernel_rfl
      obtain ⟨c0, c1, c2, c3⟩ := oC.four
      refine ⟨?_⟩
      go_simp
      refine hK (upd U 29 (.agg #[.bool xC, .slice aC nC cC, .bool yC, .slice eC mC fC])) _ _ ?_ ?_
      · rw [HA.out]; kernel_rfl
      · exact ⟨fb, fk, fs, oA, oC, f0, (fun _ => rfl), f2, f3, f4, f5, f6, f7, f8, f10, s9, m8⟩
    refine StepsU.run rfl ?_ ?_
    · intro L U wr hF hlk haf A K hA hK
      have HA : Hid (A = putAll _ _ U) := hA
      clear hA
      simp [Aft, Region.binds] at haf
      obtain ⟨fb, fk, fs, oA, oC, f0, f1, f2, f3, f4, f5, f6, f7, f8, f10, s9, m8⟩ := hF
      have g1 := f1 (by simp [haf])
      have e29 := rd HA.out 29 (by kernel_rfl) g1
      refine ⟨?_⟩
      go_simp
      refine (qnum_z _ p k _ (hC.val.keepI fk) HK.out).mono ?_
      rintro e w1 ⟨u1, u2, u3, u4, rfl, hr, hb⟩
      go_simp
      refine hK (upd U 30 (.agg #[.bool u1, .slice u2 u3 u4])) _ _ ?_ ?_
      · rw [HA.out]; kernel_rfl
      · exact ⟨(fb.step hb (Nat.le_refl _)), (fk.trans (KeepI.below hb)), (Nat.le_trans fs hb.size), (oA.stay hb), (oC.stay hb), (mv mo_is (KeepI.below hb) f0), (mv mo_is (KeepI.below hb) f1), (fun _ => hr), (mv mo_rat (KeepI.below hb) f3), (mv (mo_t2 mo_rat mo_is) (KeepI.below hb) f4), (mv (mo_t2 mo_rat mo_is) (KeepI.below hb) f5), (mv mo_rat (KeepI.below hb) f6), (mv mo_is (KeepI.below hb) f7), (fun h => (f8 h).below hb), (mv mo_is (KeepI.below hb) f10), s9, m8⟩
    refine StepsU.run rfl ?_ ?_
    · intro L U wr hF hlk haf A K hA hK
      have HA : Hid (A = putAll _ _ U) := hA
      clear hA
      simp [Aft, Region.binds] at haf
      obtain ⟨fb, fk, fs, oA, oC, f0, f1, f2, f3, f4, f5, f6, f7, f8, f10, s9, m8⟩ := hF
      have g2 := f2 (by simp [haf])
      have e30 := rd HA.out 30 (by kernel_rfl) rfl
      refine ⟨?_⟩
      go_simp
      refine (whole_any _ k _ g2).mono ?_
      rintro e w1 ⟨z1, z2, z3, z4, z5, z6, z7, z8, rfl, hr, hb⟩
      go_simp
      refine hK (upd U 31 (.agg #[.bool z1, .slice z2 z3 z4, .bool z5, .slice z6 z7 z8])) _ _ ?_ ?_
      · rw [HA.out]; kernel_rfl
      · exact ⟨(fb.step hb (Nat.le_refl _)), (fk.trans (KeepI.below hb)), (Nat.le_trans fs hb.size), (oA.stay hb), (oC.stay hb), (mv mo_is (KeepI.below hb) f0), (mv mo_is (KeepI.below hb) f1), (mv mo_int (KeepI.below hb) f2), (fun _ => hr.val), (mv (mo_t2 mo_rat mo_is) (KeepI.below hb) f4), (mv (mo_t2 mo_rat mo_is) (KeepI.below hb) f5), (mv mo_rat (KeepI.below hb) f6), (mv mo_is (KeepI.below hb) f7), (fun h => (f8 h).below hb), (mv mo_is (KeepI.below hb) f10), s9, m8⟩
    refine StepsU.run rfl ?_ ?_
    · intro L U wr hF hlk haf A K hA hK
      have HA : Hid (A = putAll _ _ U) := hA
      clear hA
      simp [Aft, Region.binds] at haf
      obtain ⟨fb, fk, fs, oA, oC, f0, f1, f2, f3, f4, f5, f6, f7, f8, f10, s9, m8⟩ := hF
      have g0 := f0 (by simp [haf])
      have e28 := rd HA.out 28 (by kernel_rfl) g0
      have g3 := f3 (by simp [haf])
      have e31 := rd HA.out 31 (by kernel_rfl) rfl
      refine ⟨?_⟩
      go_simp
      refine (qadd_any _ _ q (k : Rat) _ (hA.val.keepI fk) g3).mono ?_
      rintro e w1 ⟨z1, z2, z3, z4, z5, z6, z7, z8, rfl, hr, hb⟩
      go_simp
      refine hK (upd U 32 (.tuple #[.agg #[.bool z1, .slice z2 z3 z4, .bool z5, .slice z6 z7 z8], .int .i64 (addC q (k : Rat))])) _ _ ?_ ?_
      · rw [HA.out]; kernel_rfl
      · exact ⟨(fb.step hb (Nat.le_refl _)), (fk.trans (KeepI.below hb)), (Nat.le_trans fs hb.size), (oA.stay hb), (oC.stay hb), (mv mo_is (KeepI.below hb) f0), (mv mo_is (KeepI.below hb) f1), (mv mo_int (KeepI.below hb) f2), (mv mo_rat (KeepI.below hb) f3), (fun _ => ⟨_, _, rfl, hr.val, rfl⟩), (mv (mo_t2 mo_rat mo_is) (KeepI.below hb) f5), (mv mo_rat (KeepI.below hb) f6), (mv mo_is (KeepI.below hb) f7), (fun h => (f8 h).below hb), (mv mo_is (KeepI.below hb) f10), s9, m8⟩
    refine StepsU.run rfl ?_ ?_
    · intro L U wr hF hlk haf A K hA hK
      have HA : Hid (A = putAll _ _ U) := hA
      clear hA
      simp [Aft, Region.binds] at haf
      obtain ⟨fb, fk, fs, oA, oC, f0, f1, f2, f3, f4, f5, f6, f7, f8, f10, s9, m8⟩ := hF
      have g4 := f4 (by simp [haf])
      have e32 := rd HA.out 32 (by kernel_rfl) rfl
      refine ⟨?_⟩
      go_simp
      refine hK (upd U 27 (U 32)) _ _ ?_ ?_
      · rw [HA.out]; kernel_rfl
      · exact ⟨fb, fk, fs, oA, oC, f0, f1, f2, f3, f4, (fun _ => g4), f6, f7, f8, f10, s9, m8⟩
    refine StepsU.run rfl ?_ ?_
    · intro L U wr hF hlk haf A K hA hK
      have HA : Hid (A = putAll _ _ U) := hA
      clear hA
      simp [Aft, Region.binds] at haf
      obtain ⟨fb, fk, fs, oA, oC, f0, f1, f2, f3, f4, f5, f6, f7, f8, f10, s9, m8⟩ := hF
      have g5 := f5 (by simp [haf])
      obtain ⟨t0, t1, hT, k0, k1⟩ := g5
      have e27 := rd HA.out 27 (by kernel_rfl) hT
      refine ⟨?_⟩
      go_simp
      have hs9 : L 9 = false := by cases h : L 9 with | false => rfl | true => rw [s9 h] at hlk; cases hlk
      refine hK (upd U 33 t0) _ _ ?_ ?_
      · rw [HA.out]; kernel_rfl
      · exact ⟨fb, fk, fs, oA, oC, f0, f1, f2, f3, f4, f5, (fun _ => k0), f7, (fun h => flip_v (P := fun v => NEW _ _ _ _ v) hs9 (f8 h)), f10, (fun _ => rfl), m8⟩
    refine StepsU.run rfl ?_ ?_
    · intro L U wr hF hlk haf A K hA hK
      have HA : Hid (A = putAll _ _ U) := hA
      clear hA
      simp [Aft, Region.binds] at haf
      obtain ⟨fb, fk, fs, oA, oC, f0, f1, f2, f3, f4, f5, f6, f7, f8, f10, s9, m8⟩ := hF
      have g5 := f5 (by simp [haf])
      obtain ⟨t0, t1, hT, k0, k1⟩ := g5
      have e27 := rd HA.out 27 (by kernel_rfl) hT
      refine ⟨?_⟩
      go_simp
      refine hK (upd U 34 t1) _ _ ?_ ?_
      · rw [HA.out]; kernel_rfl
      · exact ⟨fb, fk, fs, oA, oC, f0, f1, f2, f3, f4, f5, f6, (fun _ => k1), f8, f10, s9, m8⟩
    refine StepsU.run rfl ?_ ?_
    · intro L U wr hF hlk haf A K hA hK
      have HA : Hid (A = putAll _ _ U) := hA
      clear hA
      simp [Aft, Region.binds] at haf
      obtain ⟨fb, fk, fs, oA, oC, f0, f1, f2, f3, f4, f5, f6, f7, f8, f10, s9, m8⟩ := hF
      have hst : L 9 = false := by cases h : L 9 with | false => rfl | true => rw [m8 h] at hlk; cases hlk
      refine ⟨?_⟩
      go_simp
      have hb := below_new wr (.cells #[.bool false, .slice none 0 0, .bool false, .slice none 0 0] 27 (0, 0))
      refine hK (upd U 9 (.pointer (some ⟨wr.heap.size, 0, none⟩))) _ _ ?_ ?_
      · rw [HA.out]; kernel_rfl
      · exact ⟨(fb.step hb (Nat.le_refl _)), (fk.trans (KeepI.below hb)), (Nat.le_trans fs hb.size), (oA.stay hb), (oC.stay hb), (mv mo_is (KeepI.below hb) f0), (mv mo_is (KeepI.below hb) f1), (mv mo_int (KeepI.below hb) f2), (mv mo_rat (KeepI.below hb) f3), (mv (mo_t2 mo_rat mo_is) (KeepI.below hb) f4), (mv (mo_t2 mo_rat mo_is) (KeepI.below hb) f5), (mv mo_rat (KeepI.below hb) f6), (mv mo_is (KeepI.below hb) f7), (fun _ => new_zero hst (NEW.mk fs (noI4 _ _ _ _ _ _ _ _))), (mv mo_is (KeepI.below hb) f10), s9, (fun _ => rfl)⟩
    refine StepsU.run rfl ?_ ?_
    · intro L U wr hF hlk haf A K hA hK
      have HA : Hid (A = putAll _ _ U) := hA
      clear hA
      simp [Aft, Region.binds] at haf
      obtain ⟨fb, fk, fs, oA, oC, f0, f1, f2, f3, f4, f5, f6, f7, f8, f10, s9, m8⟩ := hF
      have g6 := f6 (by simp [haf])
      obtain ⟨px, pa, pn, pc, qx, qa, qn, qc, hsrc, -⟩ := g6
      have e33 := rd HA.out 33 (by kernel_rfl) hsrc
      have gA := f8 (by simp [haf])
      simp only [hlk, cond_false] at gA
      obtain ⟨b, cs, hp, hBb, hcs, hblk, -⟩ := gA
      injection hcs with hcs
      subst hcs
      have e9 := rd HA.out 9 (by kernel_rfl) hp
      obtain ⟨c0, c1, c2, c3⟩ := hblk.four
      obtain ⟨q0, q1, q2, q3⟩ := hblk.frozen4
      refine ⟨?_⟩
      go_simp
      have hk := keepI_four (noI_slice _ _ _) (noI_slice _ _ _) hblk px pa pn pc qx qa qn qc
      refine hK U _ _ ?_ ?_
      · exact HA.out
      · exact ⟨(below_store4 fb (Nat.le_trans hbw.size hBb) _ _ _ _), (fk.trans hk), (by simpa using fs), (oA.other4 (Nat.ne_of_gt (Nat.lt_of_lt_of_le ltA hBb)) _ _ _ _), (oC.other4 (Nat.ne_of_gt (Nat.lt_of_lt_of_le ltC hBb)) _ _ _ _), (mv mo_is hk f0), (mv mo_is hk f1), (mv mo_int hk f2), (mv mo_rat hk f3), (mv (mo_t2 mo_rat mo_is) hk f4), (mv (mo_t2 mo_rat mo_is) hk f5), (mv mo_rat hk f6), (mv mo_is hk f7), (fun _ => stored_new hp hsrc (NEW.over4 hBb hblk px pa pn pc qx qa qn qc)), (mv mo_is hk f10), (fun _ => by simp [haf]), (fun _ => by simp [haf])⟩
    refine StepsU.run rfl ?_ StepsU.nil
    · intro L U wr hF hlk haf A K hA hK
      have HA : Hid (A = putAll _ _ U) := hA
      clear hA
      simp [Aft, Region.binds] at haf
      obtain ⟨fb, fk, fs, oA, oC, f0, f1, f2, f3, f4, f5, f6, f7, f8, f10, s9, m8⟩ := hF
      have g7 := f7 (by simp [haf])
      have e34 := rd HA.out 34 (by kernel_rfl) rfl
      refine ⟨?_⟩
      go_simp
      refine hK (upd U 10 (U 34)) _ _ ?_ ?_
      · rw [HA.out]; kernel_rfl
      · exact ⟨fb, fk, fs, oA, oC, f0, f1, f2, f3, f4, f5, f6, f7, f8, (fun _ => g7), s9, m8⟩
  intro L U4 V4 hall hF
  have hbw0 := hbw
  clear hbw
  obtain ⟨hbw, fk, fs, oA, oC, f0, f1, f2, f3, f4, f5, f6, f7, f8, f10, s9, m8⟩ := hF
  clear s9 m8
  have g0 := f0 (hall 0 (by decide))
  have g1 := f1 (hall 1 (by decide))
  have g2 := f2 (hall 2 (by decide))
  have g3 := f3 (hall 3 (by decide))
  have g4 := f4 (hall 4 (by decide))
  have g5 := f5 (hall 5 (by decide))
  have g6 := f6 (hall 6 (by decide))
  have g7 := f7 (hall 7 (by decide))
  have g8 := f8 (hall 8 (by decide))
  rw [hall 9 (by decide), cond_true] at g8
  have g10 := f10 (hall 10 (by decide))
  clear hall f0 f1 f2 f3 f4 f5 f6 f7 f8 f10
  replace hA := hA.keepI fk
  replace hC := hC.keepI fk
  obtain ⟨bX, csX, hpX, lbX, hcsX, oX, -⟩ := g8
  obtain ⟨xX, aX, nX, cX, yX, eX, mX, fX, hvX, hX⟩ := g6
  rw [hvX] at hcsX
  injection hcsX with hcsX
  subst hcsX
  have ltX := oX.lt
  have neAX : w2.heap.size ≠ bX := Nat.ne_of_lt (Nat.lt_of_lt_of_le ltA lbX)
  have neCX : w3.heap.size ≠ bX := Nat.ne_of_lt (Nat.lt_of_lt_of_le ltC lbX)
  have lwX : w.heap.size ≤ bX := Nat.le_trans hbw0.size lbX
  clear lbX
  replace ltA := Nat.lt_of_lt_of_le ltA fs
  replace ltC := Nat.lt_of_lt_of_le ltC fs
  clear g0
  clear g1
  clear g2
  clear g3
  clear g4
  clear g5
  clear g7
  clear hbw0
  simp only [setM_some, setM_none, setM_nil]
  rw [hpX]
  clear hpX hvX
  clear fk fs
  have eC : U4 10 = _ := g10
  clear g10
  rw [eC]
  clear eC
  go_wp2
  refine wp_region_M (by kernel_rfl) [11, 12, 35, 36, 37, 38, 39, 40, 41, 42] [none, none, none, none, none, none, none, none, none, none, none, some 11, some 12, none, none, none, none, none, none, none, none, none, none, none, none, none, none, none, none, none, none, none, none, none, none, some 35, some 36, some 37, some 38, some 39, some 40, some 41, some 42] (fun U => by kernel_rfl) (fun L U wr => Below w.heap.size w wr ∧ KeepI V4 wr ∧ V4.heap.size ≤ wr.heap.size ∧ Blk 27 wr (w2.heap.size) #[.bool xA, .slice aA nA cA, .bool yA, .slice eA mA fA] ∧ Blk 27 wr (w3.heap.size) #[.bool xC, .slice aC nC cC, .bool yC, .slice eC mC fC] ∧ Blk 27 wr (bX) #[.bool xX, .slice aX nX cX, .bool yX, .slice eX mX fX] ∧ (L 0 = true → IS (.agg #[.bool xA, .slice aA nA cA, .bool yA, .slice eA mA fA]) (U 36) wr) ∧ (L 1 = true → INT fl (U 37) wr) ∧ (L 2 = true → IS (.agg #[.bool xC, .slice aC nC cC, .bool yC, .slice eC mC fC]) (U 38) wr) ∧ (L 3 = true → INT k (U 39) wr) ∧ (L 4 = true → T2 (INT (hz (fl + k))) (IS (.int .i64 (ec (fl + k)))) (U 40) wr) ∧ (L 5 = true → T2 (INT (hz (fl + k))) (IS (.int .i64 (ec (fl + k)))) (U 35) wr) ∧ (L 6 = true → INT (hz (fl + k)) (U 41) wr) ∧ (L 7 = true → IS (.int .i64 (ec (fl + k))) (U 42) wr) ∧ (L 8 = true → NEW 25 V4.heap.size wr (U 11) (bif L 9 then U 41 else .agg #[.bool false, .slice none 0 0])) ∧ (L 10 = true → IS (.int .i64 (ec (fl + k))) (U 12) wr) ∧ (L 9 = true → L 6 = true) ∧ (L 9 = true → L 8 = true)) (by kernel_rfl) ?_ ?_ ?_
  · exact fun U => ⟨hbw.drew, KeepI.below (Below.refl _ _).drew, Nat.le_refl _, oA.drew, oC.drew, oX.drew, (fun h => by cases h), (fun h => by cases h), (fun h => by cases h), (fun h => by cases h), (fun h => by cases h), (fun h => by cases h), (fun h => by cases h), (fun h => by cases h), (fun h => by cases h), (fun h => by cases h), (fun h => by cases h), (fun h => by cases h)⟩
  · refine StepsU.run rfl ?_ ?_
    · intro L U wr hF hlk haf A K hA hK
      have HA : Hid (A = putAll _ _ U) := hA
      clear hA
      simp [Aft, Region.binds] at haf
      obtain ⟨fb, fk, fs, oA, oC, oX, f0, f1, f2, f3, f4, f5, f6, f7, f8, f10, s9, m8⟩ := hF
      have e5 : A.tmps[5]? = some (.pointer (some ⟨w2.heap.size, 0, none⟩)) := by rw [HA.out]; kernel_rfl
      obtain ⟨c0, c1, c2, c3⟩ := oA.four
      refine ⟨?_⟩
      go_simp
      refine hK (upd U 36 (.agg #[.bool xA, .slice aA nA cA, .bool yA, .slice eA mA fA])) _ _ ?_ ?_
      · rw [HA.out]; kernel_rfl
      · exact ⟨fb, fk, fs, oA, oC, oX, (fun _ => rfl), f1, f2, f3, f4, f5, f6, f7, f8, f10, s9, m8⟩
    refine StepsU.run rfl ?_ ?_
    · intro L U wr hF hlk haf A K hA hK
      have HA : Hid (A = putAll _ _ U) := hA
      clear hA
      simp [Aft, Region.binds] at haf
      obtain ⟨fb, fk, fs, oA, oC, oX, f0, f1, f2, f3, f4, f5, f6, f7, f8, f10, s9, m8⟩ := hF
      have g0 := f0 (by simp [haf])
      have e36 := rd HA.out 36 (by kernel_rfl) g0
      refine ⟨?_⟩
      go_simp
      refine (floor_any _ q fl _ (hA.val.keepI fk) HF.out).mono ?_
      rintro e w1 ⟨u1, u2, u3, u4, rfl, hr, hb⟩
      go_simp
      refine hK (upd U 37 (.agg #[.bool u1, .slice u2 u3 u4])) _ _ ?_ ?_
      · rw [HA.out]; kernel_rfl
      · exact ⟨(fb.step hb (Nat.le_refl _)), (fk.trans (KeepI.below hb)), (Nat.le_trans fs hb.size), (oA.stay hb), (oC.stay hb), (oX.stay hb), (mv mo_is (KeepI.below hb) f0), (fun _ => hr), (mv mo_is (KeepI.below hb) f2), (mv mo_int (KeepI.below hb) f3), (mv (mo_t2 mo_int mo_is) (KeepI.below hb) f4), (mv (mo_t2 mo_int mo_is) (KeepI.below hb) f5), (mv mo_int (KeepI.below hb) f6), (mv mo_is (KeepI.below hb) f7), (fun h => (f8 h).below hb), (mv mo_is (KeepI.below hb) f10), s9, m8⟩
    refine StepsU.run rfl ?_ ?_
    · intro L U wr hF hlk haf A K hA hK
      have HA : Hid (A = putAll _ _ U) := hA
      clear hA
      simp [Aft, Region.binds] at haf
      obtain ⟨fb, fk, fs, oA, oC, oX, f0, f1, f2, f3, f4, f5, f6, f7, f8, f10, s9, m8⟩ := hF
      have e7 : A.tmps[7]? = some (.pointer (some ⟨w3.heap.size, 0, none⟩)) := by rw [HA.out]; kernel_rfl
      obtain ⟨c0, c1, c2, c3⟩ := oC.four
      refine ⟨?_⟩
      go_simp
      refine hK (upd U 38 (.agg #[.bool xC, .slice aC nC cC, .bool yC, .slice eC mC fC])) _ _ ?_ ?_
      · rw [HA.out]; kernel_rfl
      · exact ⟨fb, fk, fs, oA, oC, oX, f0, f1, (fun _ => rfl), f3, f4, f5, f6, f7, f8, f10, s9, m8⟩
    refine StepsU.run rfl ?_ ?_
    · intro L U wr hF hlk haf A K hA hK
      have HA : Hid (A = putAll _ _ U) := hA
      clear hA
      simp [Aft, Region.binds] at haf
      obtain ⟨fb, fk, fs, oA, oC, oX, f0, f1, f2, f3, f4, f5, f6, f7, f8, f10, s9, m8⟩ := hF
      have g2 := f2 (by simp [haf])
      have e38 := rd HA.out 38 (by kernel_rfl) g2
      refine ⟨?_⟩
      go_simp
      refine (qnum_z _ p k _ (hC.val.keepI fk) HK.out).mono ?_
      rintro e w1 ⟨u1, u2, u3, u4, rfl, hr, hb⟩
      go_simp
      refine hK (upd U 39 (.agg #[.bool u1, .slice u2 u3 u4])) _ _ ?_ ?_
      · rw [HA.out]; kernel_rfl
      · exact ⟨(fb.step hb (Nat.le_refl _)), (fk.trans (KeepI.below hb)), (Nat.le_trans fs hb.size), (oA.stay hb), (oC.stay hb), (oX.stay hb), (mv mo_is (KeepI.below hb) f0), (mv mo_int (KeepI.below hb) f1), (mv mo_is (KeepI.below hb) f2), (fun _ => hr), (mv (mo_t2 mo_int mo_is) (KeepI.below hb) f4), (mv (mo_t2 mo_int mo_is) (KeepI.below hb) f5), (mv mo_int (KeepI.below hb) f6), (mv mo_is (KeepI.below hb) f7), (fun h => (f8 h).below hb), (mv mo_is (KeepI.below hb) f10), s9, m8⟩
    refine StepsU.run rfl ?_ ?_
    · intro L U wr hF hlk haf A K hA hK
      have HA : Hid (A = putAll _ _ U) := hA
      clear hA
      simp [Aft, Region.binds] at haf
      obtain ⟨fb, fk, fs, oA, oC, oX, f0, f1, f2, f3, f4, f5, f6, f7, f8, f10, s9, m8⟩ := hF
      have g1 := f1 (by simp [haf])
      have e37 := rd HA.out 37 (by kernel_rfl) rfl
      have g3 := f3 (by simp [haf])
      have e39 := rd HA.out 39 (by kernel_rfl) rfl
      refine ⟨?_⟩
      go_simp
      refine (add_h _ _ fl k _ g1 g3).mono ?_
      rintro e w1 ⟨u1, u2, u3, u4, rfl, hr, hb⟩
      go_simp
      refine hK (upd U 40 (.tuple #[.agg #[.bool u1, .slice u2 u3 u4], .int .i64 (ec (fl + k))])) _ _ ?_ ?_
      · rw [HA.out]; kernel_rfl
      · exact ⟨(fb.step hb (Nat.le_refl _)), (fk.trans (KeepI.below hb)), (Nat.le_trans fs hb.size), (oA.stay hb), (oC.stay hb), (oX.stay hb), (mv mo_is (KeepI.below hb) f0), (mv mo_int (KeepI.below hb) f1), (mv mo_is (KeepI.below hb) f2), (mv mo_int (KeepI.below hb) f3), (fun _ => ⟨_, _, rfl, hr, rfl⟩), (mv (mo_t2 mo_int mo_is) (KeepI.below hb) f5), (mv mo_int (KeepI.below hb) f6), (mv mo_is (KeepI.below hb) f7), (fun h => (f8 h).below hb), (mv mo_is (KeepI.below hb) f10), s9, m8⟩
    refine StepsU.run rfl ?_ ?_
    · intro L U wr hF hlk haf A K hA hK
      have HA : Hid (A = putAll _ _ U) := hA
      clear hA
      simp [Aft, Region.binds] at haf
      obtain ⟨fb, fk, fs, oA, oC, oX, f0, f1, f2, f3, f4, f5, f6, f7, f8, f10, s9, m8⟩ := hF
      have g4 := f4 (by simp [haf])
      have e40 := rd HA.out 40 (by kernel_rfl) rfl
      refine ⟨?_⟩
      go_simp
      refine hK (upd U 35 (U 40)) _ _ ?_ ?_
      · rw [HA.out]; kernel_rfl
      · exact ⟨fb, fk, fs, oA, oC, oX, f0, f1, f2, f3, f4, (fun _ => g4), f6, f7, f8, f10, s9, m8⟩
    refine StepsU.run rfl ?_ ?_
    · intro L U wr hF hlk haf A K hA hK
      have HA : Hid (A = putAll _ _ U) := hA
      clear hA
      simp [Aft, Region.binds] at haf
      obtain ⟨fb, fk, fs, oA, oC, oX, f0, f1, f2, f3, f4, f5, f6, f7, f8, f10, s9, m8⟩ := hF
      have g5 := f5 (by simp [haf])
      obtain ⟨t0, t1, hT, k0, k1⟩ := g5
      have e35 := rd HA.out 35 (by kernel_rfl) hT
      refine ⟨?_⟩
      go_simp
      have hs9 : L 9 = false := by cases h : L 9 with | false => rfl | true => rw [s9 h] at hlk; cases hlk
      refine hK (upd U 41 t0) _ _ ?_ ?_
      · rw [HA.out]; kernel_rfl
      · exact ⟨fb, fk, fs, oA, oC, oX, f0, f1, f2, f3, f4, f5, (fun _ => k0), f7, (fun h => flip_v (P := fun v => NEW _ _ _ _ v) hs9 (f8 h)), f10, (fun _ => rfl), m8⟩
    refine StepsU.run rfl ?_ ?_
    · intro L U wr hF hlk haf A K hA hK
      have HA : Hid (A = putAll _ _ U) := hA
      clear hA
      simp [Aft, Region.binds] at haf
      obtain ⟨fb, fk, fs, oA, oC, oX, f0, f1, f2, f3, f4, f5, f6, f7, f8, f10, s9, m8⟩ := hF
      have g5 := f5 (by simp [haf])
      obtain ⟨t0, t1, hT, k0, k1⟩ := g5
      have e35 := rd HA.out 35 (by kernel_rfl) hT
      refine ⟨?_⟩
      go_simp
      refine hK (upd U 42 t1) _ _ ?_ ?_
      · rw [HA.out]; kernel_rfl
      · exact ⟨fb, fk, fs, oA, oC, oX, f0, f1, f2, f3, f4, f5, f6, (fun _ => k1), f8, f10, s9, m8⟩
    refine StepsU.run rfl ?_ ?_
    · intro L U wr hF hlk haf A K hA hK
      have HA : Hid (A = putAll _ _ U) := hA
      clear hA
      simp [Aft, Region.binds] at haf
      obtain ⟨fb, fk, fs, oA, oC, oX, f0, f1, f2, f3, f4, f5, f6, f7, f8, f10, s9, m8⟩ := hF
      have hst : L 9 = false := by cases h : L 9 with | false => rfl | true => rw [m8 h] at hlk; cases hlk
      refine ⟨?_⟩
      go_simp
      have hb := below_new wr (.cells #[.bool false, .slice none 0 0] 25 (0, 0))
      refine hK (upd U 11 (.pointer (some ⟨wr.heap.size, 0, none⟩))) _ _ ?_ ?_
      · rw [HA.out]; kernel_rfl
      · exact ⟨(fb.step hb (Nat.le_refl _)), (fk.trans (KeepI.below hb)), (Nat.le_trans fs hb.size), (oA.stay hb), (oC.stay hb), (oX.stay hb), (mv mo_is (KeepI.below hb) f0), (mv mo_int (KeepI.below hb) f1), (mv mo_is (KeepI.below hb) f2), (mv mo_int (KeepI.below hb) f3), (mv (mo_t2 mo_int mo_is) (KeepI.below hb) f4), (mv (mo_t2 mo_int mo_is) (KeepI.below hb) f5), (mv mo_int (KeepI.below hb) f6), (mv mo_is (KeepI.below hb) f7), (fun _ => new_zero hst (NEW.mk fs (noI2 _ _ _ _))), (mv mo_is (KeepI.below hb) f10), s9, (fun _ => rfl)⟩
    refine StepsU.run rfl ?_ ?_
    · intro L U wr hF hlk haf A K hA hK
      have HA : Hid (A = putAll _ _ U) := hA
      clear hA
      simp [Aft, Region.binds] at haf
      obtain ⟨fb, fk, fs, oA, oC, oX, f0, f1, f2, f3, f4, f5, f6, f7, f8, f10, s9, m8⟩ := hF
      have g6 := f6 (by simp [haf])
      obtain ⟨px, pa, pn, pc, hsrc⟩ := AInt.shape g6
      have e41 := rd HA.out 41 (by kernel_rfl) hsrc
      have gA := f8 (by simp [haf])
      simp only [hlk, cond_false] at gA
      obtain ⟨b, cs, hp, hBb, hcs, hblk, -⟩ := gA
      injection hcs with hcs
      subst hcs
      have e11 := rd HA.out 11 (by kernel_rfl) hp
      obtain ⟨c0, c1, q0, q1⟩ := hblk.two
      refine ⟨?_⟩
      go_simp
      have hk := keepI_two hblk px pa pn pc
      refine hK U _ _ ?_ ?_
      · exact HA.out
      · exact ⟨(below_store2 fb (Nat.le_trans hbw.size hBb) _ _), (fk.trans hk), (by simpa using fs), (oA.other2 (Nat.ne_of_gt (Nat.lt_of_lt_of_le ltA hBb)) _ _), (oC.other2 (Nat.ne_of_gt (Nat.lt_of_lt_of_le ltC hBb)) _ _), (oX.other2 (Nat.ne_of_gt (Nat.lt_of_lt_of_le ltX hBb)) _ _), (mv mo_is hk f0), (mv mo_int hk f1), (mv mo_is hk f2), (mv mo_int hk f3), (mv (mo_t2 mo_int mo_is) hk f4), (mv (mo_t2 mo_int mo_is) hk f5), (mv mo_int hk f6), (mv mo_is hk f7), (fun _ => stored_new hp hsrc (NEW.over2 hBb hblk px pa pn pc)), (mv mo_is hk f10), (fun _ => by simp [haf]), (fun _ => by simp [haf])⟩
    refine StepsU.run rfl ?_ StepsU.nil
    · intro L U wr hF hlk haf A K hA hK
      have HA : Hid (A = putAll _ _ U) := hA
      clear hA
      simp [Aft, Region.binds] at haf
      obtain ⟨fb, fk, fs, oA, oC, oX, f0, f1, f2, f3, f4, f5, f6, f7, f8, f10, s9, m8⟩ := hF
      have g7 := f7 (by simp [haf])
      have e42 := rd HA.out 42 (by kernel_rfl) rfl
      refine ⟨?_⟩
      go_simp
      refine hK (upd U 12 (U 42)) _ _ ?_ ?_
      · rw [HA.out]; kernel_rfl
      · exact ⟨fb, fk, fs, oA, oC, oX, f0, f1, f2, f3, f4, f5, f6, f7, f8, (fun _ => g7), s9, m8⟩
  intro L U5 V5 hall hF
  have hbw0 := hbw
  clear hbw
  obtain ⟨hbw, fk, fs, oA, oC, oX, f0, f1, f2, f3, f4, f5, f6, f7, f8, f10, s9, m8⟩ := hF
  clear s9 m8
  have g0 := f0 (hall 0 (by decide))
  have g1 := f1 (hall 1 (by decide))
  have g2 := f2 (hall 2 (by decide))
  have g3 := f3 (hall 3 (by decide))
  have g4 := f4 (hall 4 (by decide))
  have g5 := f5 (hall 5 (by decide))
  have g6 := f6 (hall 6 (by decide))
  have g7 := f7 (hall 7 (by decide))
  have g8 := f8 (hall 8 (by decide))
  rw [hall 9 (by decide), cond_true] at g8
  have g10 := f10 (hall 10 (by decide))
  clear hall f0 f1 f2 f3 f4 f5 f6 f7 f8 f10
  replace hA := hA.keepI fk
  replace hC := hC.keepI fk
  replace hX := hX.keepI fk
  obtain ⟨bM, csM, hpM, lbM, hcsM, oM, -⟩ := g8
  obtain ⟨xM, aM, nM, cM, hvM⟩ := AInt.shape g6
  have hM : AInt _ _ _ := g6
  rw [hvM] at hM
  rw [hvM] at hcsM
  injection hcsM with hcsM
  subst hcsM
  have ltM := oM.lt
  have neAM : w2.heap.size ≠ bM := Nat.ne_of_lt (Nat.lt_of_lt_of_le ltA lbM)
  have neCM : w3.heap.size ≠ bM := Nat.ne_of_lt (Nat.lt_of_lt_of_le ltC lbM)
  have neXM : bX ≠ bM := Nat.ne_of_lt (Nat.lt_of_lt_of_le ltX lbM)
  have lwM : w.heap.size ≤ bM := Nat.le_trans hbw0.size lbM
  clear lbM
  replace ltA := Nat.lt_of_lt_of_le ltA fs
  replace ltC := Nat.lt_of_lt_of_le ltC fs
  replace ltX := Nat.lt_of_lt_of_le ltX fs
  clear g0
  clear g1
  clear g2
  clear g3
  clear g4
  clear g5
  clear g6
  clear g7
  clear hbw0
  simp only [setM_some, setM_none, setM_nil]
  rw [hpM]
  clear hpM hvM
  clear fk fs
  have eC : U5 12 = _ := g10
  clear g10
  rw [eC]
  clear eC
  go_wp2
  refine wp_region_M (by kernel_rfl) [13, 14, 43, 44, 45, 46, 47, 48, 49, 50] [none, none, none, none, none, none, none, none, none, none, none, none, none, some 13, some 14, none, none, none, none, none, none, none, none, none, none, none, none, none, none, none, none, none, none, none, none, none, none, none, none, none, none, none, none, some 43, some 44, some 45, some 46, some 47, some 48, some 49, some 50] (fun U => by kernel_rfl) (fun L U wr => Below w.heap.size w wr ∧ KeepI V5 wr ∧ V5.heap.size ≤ wr.heap.size ∧ Blk 27 wr (w2.heap.size) #[.bool xA, .slice aA nA cA, .bool yA, .slice eA mA fA] ∧ Blk 27 wr (w3.heap.size) #[.bool xC, .slice aC nC cC, .bool yC, .slice eC mC fC] ∧ Blk 27 wr (bX) #[.bool xX, .slice aX nX cX, .bool yX, .slice eX mX fX] ∧ Blk 25 wr (bM) #[.bool xM, .slice aM nM cM] ∧ (L 0 = true → IS (.agg #[.bool xA, .slice aA nA cA, .bool yA, .slice eA mA fA]) (U 44) wr) ∧ (L 1 = true → INT cl (U 45) wr) ∧ (L 2 = true → IS (.agg #[.bool xC, .slice aC nC cC, .bool yC, .slice eC mC fC]) (U 46) wr) ∧ (L 3 = true → INT k (U 47) wr) ∧ (L 4 = true → T2 (INT (hz (cl + k))) (IS (.int .i64 (ec (cl + k)))) (U 48) wr) ∧ (L 5 = true → T2 (INT (hz (cl + k))) (IS (.int .i64 (ec (cl + k)))) (U 43) wr) ∧ (L 6 = true → INT (hz (cl + k)) (U 49) wr) ∧ (L 7 = true → IS (.int .i64 (ec (cl + k))) (U 50) wr) ∧ (L 8 = true → NEW 25 V5.heap.size wr (U 13) (bif L 9 then U 49 else .agg #[.bool false, .slice none 0 0])) ∧ (L 10 = true → IS (.int .i64 (ec (cl + k))) (U 14) wr) ∧ (L 9 = true → L 6 = true) ∧ (L 9 = true → L 8 = true)) (by kernel_rfl) ?_ ?_ ?_
  · exact fun U => ⟨hbw.drew, KeepI.below (Below.refl _ _).drew, Nat.le_refl _, oA.drew, oC.drew, oX.drew, oM.drew, (fun h => by cases h), (fun h => by cases h), (fun h => by cases h), (fun h => by cases h), (fun h => by cases h), (fun h => by cases h), (fun h => by cases h), (fun h => by cases h), (fun h => by cases h), (fun h => by cases h), (fun h => by cases h), (fun h => by cases h)⟩
  · refine StepsU.run rfl ?_ ?_
    · intro L U wr hF hlk haf A K hA hK
      have HA : Hid (A = putAll _ _ U) := hA
      clear hA
      simp [Aft, Region.binds] at haf
      obtain ⟨fb, fk, fs, oA, oC, oX, oM, f0, f1, f2, f3, f4, f5, f6, f7, f8, f10, s9, m8⟩ := hF
      have e5 : A.tmps[5]? = some (.pointer (some ⟨w2.heap.size, 0, none⟩)) := by rw [HA.out]; kernel_rfl
      obtain ⟨c0, c1, c2, c3⟩ := oA.four
      refine ⟨?_⟩
      go_simp
      refine hK (upd U 44 (.agg #[.bool xA, .slice aA nA cA, .bool yA, .slice eA mA fA])) _ _ ?_ ?_
      · rw [HA.out]; kernel_rfl
      · exact ⟨fb, fk, fs, oA, oC, oX, oM, (fun _ => rfl), f1, f2, f3, f4, f5, f6, f7, f8, f10, s9, m8⟩
    refine StepsU.run rfl ?_ ?_
    · intro L U wr hF hlk haf A K hA hK
      have HA : Hid (A = putAll _ _ U) := hA
      clear hA
      simp [Aft, Region.binds] at haf
      obtain ⟨fb, fk, fs, oA, oC, oX, oM, f0, f1, f2, f3, f4, f5, f6, f7, f8, f10, s9, m8⟩ := hF
      have g0 := f0 (by simp [haf])
      have e44 := rd HA.out 44 (by kernel_rfl) g0
      refine ⟨?_⟩
      go_simp
      refine (ceil_any _ q cl _ (hA.val.keepI fk) HL.out).mono ?_
      rintro e w1 ⟨u1, u2, u3, u4, rfl, hr, hb⟩
      go_simp
      refine hK (upd U 45 (.agg #[.bool u1, .slice u2 u3 u4])) _ _ ?_ ?_
      · rw [HA.out]; kernel_rfl
      · exact ⟨(fb.step hb (Nat.le_refl _)), (fk.trans (KeepI.below hb)), (Nat.le_trans fs hb.size), (oA.stay hb), (oC.stay hb), (oX.stay hb), (oM.stay hb), (mv mo_is (KeepI.below hb) f0), (fun _ => hr), (mv mo_is (KeepI.below hb) f2), (mv mo_int (KeepI.below hb) f3), (mv (mo_t2 mo_int mo_is) (KeepI.below hb) f4), (mv (mo_t2 mo_int mo_is) (KeepI.below hb) f5), (mv mo_int (KeepI.below hb) f6), (mv mo_is (KeepI.below hb) f7), (fun h => (f8 h).below hb), (mv mo_is (KeepI.below hb) f10), s9, m8⟩
    refine StepsU.run rfl ?_ ?_
    · intro L U wr hF hlk haf A K hA hK
      have HA : Hid (A = putAll _ _ U) := hA
      clear hA
      simp [Aft, Region.binds] at haf
      obtain ⟨fb, fk, fs, oA, oC, oX, oM, f0, f1, f2, f3, f4, f5, f6, f7, f8, f10, s9, m8⟩ := hF
      have e7 : A.tmps[7]? = some (.pointer (some ⟨w3.heap.size, 0, none⟩)) := by rw [HA.out]; kernel_rfl
      obtain ⟨c0, c1, c2, c3⟩ := oC.four
      refine ⟨?_⟩
      go_simp
      refine hK (upd U 46 (.agg #[.bool xC, .slice aC nC cC, .bool yC, .slice eC mC fC])) _ _ ?_ ?_
      · rw [HA.out]; kernel_rfl
      · exact ⟨fb, fk, fs, oA, oC, oX, oM, f0, f1, (fun _ => rfl), f3, f4, f5, f6, f7, f8, f10, s9, m8⟩
    refine StepsU.run rfl ?_ ?_
    · intro L U wr hF hlk haf A K hA hK
      have HA : Hid (A = putAll _ _ U) := hA
      clear hA
      simp [Aft, Region.binds] at haf
      obtain ⟨fb, fk, fs, oA, oC, oX, oM, f0, f1, f2, f3, f4, f5, f6, f7, f8, f10, s9, m8⟩ := hF
      have g2 := f2 (by simp [haf])
      have e46 := rd HA.out 46 (by kernel_rfl) g2
      refine ⟨?_⟩
      go_simp
      refine (qnum_z _ p k _ (hC.val.keepI fk) HK.out).mono ?_
      rintro e w1 ⟨u1, u2, u3, u4, rfl, hr, hb⟩
      go_simp
      refine hK (upd U 47 (.agg #[.bool u1, .slice u2 u3 u4])) _ _ ?_ ?_
      · rw [HA.out]; kernel_rfl
      · exact ⟨(fb.step hb (Nat.le_refl _)), (fk.trans (KeepI.below hb)), (Nat.le_trans fs hb.size), (oA.stay hb), (oC.stay hb), (oX.stay hb), (oM.stay hb), (mv mo_is (KeepI.below hb) f0), (mv mo_int (KeepI.below hb) f1), (mv mo_is (KeepI.below hb) f2), (fun _ => hr), (mv (mo_t2 mo_int mo_is) (KeepI.below hb) f4), (mv (mo_t2 mo_int mo_is) (KeepI.below hb) f5), (mv mo_int (KeepI.below hb) f6), (mv mo_is (KeepI.below hb) f7), (fun h => (f8 h).below hb), (mv mo_is (KeepI.below hb) f10), s9, m8⟩
    refine StepsU.run rfl ?_ ?_
    · intro L U wr hF hlk haf A K hA hK
      have HA : Hid (A = putAll _ _ U) := hA
      clear hA
      simp [Aft, Region.binds] at haf
      obtain ⟨fb, fk, fs, oA, oC, oX, oM, f0, f1, f2, f3, f4, f5, f6, f7, f8, f10, s9, m8⟩ := hF
      have g1 := f1 (by simp [haf])
      have e45 := rd HA.out 45 (by kernel_rfl) rfl
      have g3 := f3 (by simp [haf])
      have e47 := rd HA.out 47 (by kernel_rfl) rfl
      refine ⟨?_⟩
      go_simp
      refine (add_h _ _ cl k _ g1 g3).mono ?_
      rintro e w1 ⟨u1, u2, u3, u4, rfl, hr, hb⟩
      go_simp
      refine hK (upd U 48 (.tuple #[.agg #[.bool u1, .slice u2 u3 u4], .int .i64 (ec (cl + k))])) _ _ ?_ ?_
      · rw [HA.out]; kernel_rfl
      · exact ⟨(fb.step hb (Nat.le_refl _)), (fk.trans (KeepI.below hb)), (Nat.le_trans fs hb.size), (oA.stay hb), (oC.stay hb), (oX.stay hb), (oM.stay hb), (mv mo_is (KeepI.below hb) f0), (mv mo_int (KeepI.below hb) f1), (mv mo_is (KeepI.below hb) f2), (mv mo_int (KeepI.below hb) f3), (fun _ => ⟨_, _, rfl, hr, rfl⟩), (mv (mo_t2 mo_int mo_is) (KeepI.below hb) f5), (mv mo_int (KeepI.below hb) f6), (mv mo_is (KeepI.below hb) f7), (fun h => (f8 h).below hb), (mv mo_is (KeepI.below hb) f10), s9, m8⟩
    refine StepsU.run rfl ?_ ?_
    · intro L U wr hF hlk haf A K hA hK
      have HA : Hid (A = putAll _ _ U) := hA
      clear hA
      simp [Aft, Region.binds] at haf
      obtain ⟨fb, fk, fs, oA, oC, oX, oM, f0, f1, f2, f3, f4, f5, f6, f7, f8, f10, s9, m8⟩ := hF
      have g4 := f4 (by simp [haf])
      have e48 := rd HA.out 48 (by kernel_rfl) rfl
      refine ⟨?_⟩
      go_simp
      refine hK (upd U 43 (U 48)) _ _ ?_ ?_
      · rw [HA.out]; kernel_rfl
      · exact ⟨fb, fk, fs, oA, oC, oX, oM, f0, f1, f2, f3, f4, (fun _ => g4), f6, f7, f8, f10, s9, m8⟩
    refine StepsU.run rfl ?_ ?_
    · intro L U wr hF hlk haf A K hA hK
      have HA : Hid (A = putAll _ _ U) := hA
      clear hA
      simp [Aft, Region.binds] at haf
      obtain ⟨fb, fk, fs, oA, oC, oX, oM, f0, f1, f2, f3, f4, f5, f6, f7, f8, f10, s9, m8⟩ := hF
      have g5 := f5 (by simp [haf])
      obtain ⟨t0, t1, hT, k0, k1⟩ := g5
      have e43 := rd HA.out 43 (by kernel_rfl) hT
      refine ⟨?_⟩
      go_simp
      have hs9 : L 9 = false := by cases h : L 9 with | false => rfl | true => rw [s9 h] at hlk; cases hlk
      refine hK (upd U 49 t0) _ _ ?_ ?_
      · rw [HA.out]; kernel_rfl
      · exact ⟨fb, fk, fs, oA, oC, oX, oM, f0, f1, f2, f3, f4, f5, (fun _ => k0), f7, (fun h => flip_v (P := fun v => NEW _ _ _ _ v) hs9 (f8 h)), f10, (fun _ => rfl), m8⟩
    refine StepsU.run rfl ?_ ?_
    · intro L U wr hF hlk haf A K hA hK
      have HA : Hid (A = putAll _ _ U) := hA
      clear hA
      simp [Aft, Region.binds] at haf
      obtain ⟨fb, fk, fs, oA, oC, oX, oM, f0, f1, f2, f3, f4, f5, f6, f7, f8, f10, s9, m8⟩ := hF
      have g5 := f5 (by simp [haf])
      obtain ⟨t0, t1, hT, k0, k1⟩ := g5
      have e43 := rd HA.out 43 (by kernel_rfl) hT
      refine ⟨?_⟩
      go_simp
      refine hK (upd U 50 t1) _ _ ?_ ?_
      · rw [HA.out]; kernel_rfl
      · exact ⟨fb, fk, fs, oA, oC, oX, oM, f0, f1, f2, f3, f4, f5, f6, (fun _ => k1), f8, f10, s9, m8⟩
    refine StepsU.run rfl ?_ ?_
    · intro L U wr hF hlk haf A K hA hK
      have HA : Hid (A = putAll _ _ U) := hA
      clear hA
      simp [Aft, Region.binds] at haf
      obtain ⟨fb, fk, fs, oA, oC, oX, oM, f0, f1, f2, f3, f4, f5, f6, f7, f8, f10, s9, m8⟩ := hF
      have hst : L 9 = false := by cases h : L 9 with | false => rfl | true => rw [m8 h] at hlk; cases hlk
      refine ⟨?_⟩
      go_simp
      have hb := below_new wr (.cells #[.bool false, .slice none 0 0] 25 (0, 0))
      refine hK (upd U 13 (.pointer (some ⟨wr.heap.size, 0, none⟩))) _ _ ?_ ?_
      · rw [HA.out]; kernel_rfl
      · exact ⟨(fb.step hb (Nat.le_refl _)), (fk.trans (KeepI.below hb)), (Nat.le_trans fs hb.size), (oA.stay hb), (oC.stay hb), (oX.stay hb), (oM.stay hb), (mv mo_is (KeepI.below hb) f0), (mv mo_int (KeepI.below hb) f1), (mv mo_is (KeepI.below hb) f2), (mv mo_int (KeepI.below hb) f3), (mv (mo_t2 mo_int mo_is) (KeepI.below hb) f4), (mv (mo_t2 mo_int mo_is) (KeepI.below hb) f5), (mv mo_int (KeepI.below hb) f6), (mv mo_is (KeepI.below hb) f7), (fun _ => new_zero hst (NEW.mk fs (noI2 _ _ _ _))), (mv mo_is (KeepI.below hb) f10), s9, (fun _ => rfl)⟩
    refine StepsU.run rfl ?_ ?_
    · intro L U wr hF hlk haf A K hA hK
      have HA : Hid (A = putAll _ _ U) := hA
      clear hA
      simp [Aft, Region.binds] at haf
      obtain ⟨fb, fk, fs, oA, oC, oX, oM, f0, f1, f2, f3, f4, f5, f6, f7, f8, f10, s9, m8⟩ := hF
      have g6 := f6 (by simp [haf])
      obtain ⟨px, pa, pn, pc, hsrc⟩ := AInt.shape g6
      have e49 := rd HA.out 49 (by kernel_rfl) hsrc
      have gA := f8 (by simp [haf])
      simp only [hlk, cond_false] at gA
      obtain ⟨b, cs, hp, hBb, hcs, hblk, -⟩ := gA
      injection hcs with hcs
      subst hcs
      have e13 := rd HA.out 13 (by kernel_rfl) hp
      obtain ⟨c0, c1, q0, q1⟩ := hblk.two
      refine ⟨?_⟩
      go_simp
      have hk := keepI_two hblk px pa pn pc
      refine hK U _ _ ?_ ?_
      · exact HA.out
      · exact ⟨(below_store2 fb (Nat.le_trans hbw.size hBb) _ _), (fk.trans hk), (by simpa using fs), (oA.other2 (Nat.ne_of_gt (Nat.lt_of_lt_of_le ltA hBb)) _ _), (oC.other2 (Nat.ne_of_gt (Nat.lt_of_lt_of_le ltC hBb)) _ _), (oX.other2 (Nat.ne_of_gt (Nat.lt_of_lt_of_le ltX hBb)) _ _), (oM.other2 (Nat.ne_of_gt (Nat.lt_of_lt_of_le ltM hBb)) _ _), (mv mo_is hk f0), (mv mo_int hk f1), (mv mo_is hk f2), (mv mo_int hk f3), (mv (mo_t2 mo_int mo_is) hk f4), (mv (mo_t2 mo_int mo_is) hk f5), (mv mo_int hk f6), (mv mo_is hk f7), (fun _ => stored_new hp hsrc (NEW.over2 hBb hblk px pa pn pc)), (mv mo_is hk f10), (fun _ => by simp [haf]), (fun _ => by simp [haf])⟩
    refine StepsU.run rfl ?_ StepsU.nil
    · intro L U wr hF hlk haf A K hA hK
      have HA : Hid (A = putAll _ _ U) := hA
      clear hA
      simp [Aft, Region.binds] at haf
      obtain ⟨fb, fk, fs, oA, oC, oX, oM, f0, f1, f2, f3, f4, f5, f6, f7, f8, f10, s9, m8⟩ := hF
      have g7 := f7 (by simp [haf])
      have e50 := rd HA.out 50 (by kernel_rfl) rfl
      refine ⟨?_⟩
      go_simp
      refine hK (upd U 14 (U 50)) _ _ ?_ ?_
      · rw [HA.out]; kernel_rfl
      · exact ⟨fb, fk, fs, oA, oC, oX, oM, f0, f1, f2, f3, f4, f5, f6, f7, f8, (fun _ => g7), s9, m8⟩
  intro L U6 V6 hall hF
  have hbw0 := hbw
  clear hbw
  obtain ⟨hbw, fk, fs, oA, oC, oX, oM, f0, f1, f2, f3, f4, f5, f6, f7, f8, f10, s9, m8⟩ := hF
  clear s9 m8
  have g0 := f0 (hall 0 (by decide))
  have g1 := f1 (hall 1 (by decide))
  have g2 := f2 (hall 2 (by decide))
  have g3 := f3 (hall 3 (by decide))
  have g4 := f4 (hall 4 (by decide))
  have g5 := f5 (hall 5 (by decide))
  have g6 := f6 (hall 6 (by decide))
  have g7 := f7 (hall 7 (by decide))
  have g8 := f8 (hall 8 (by decide))
  rw [hall 9 (by decide), cond_true] at g8
  have g10 := f10 (hall 10 (by decide))
  clear hall f0 f1 f2 f3 f4 f5 f6 f7 f8 f10
  replace hA := hA.keepI fk
  replace hC := hC.keepI fk
  replace hX := hX.keepI fk
  replace hM := hM.keepI fk
  obtain ⟨bP, csP, hpP, lbP, hcsP, oP, -⟩ := g8
  obtain ⟨xP, aP, nP, cP, hvP⟩ := AInt.shape g6
  have hP : AInt _ _ _ := g6
  rw [hvP] at hP
  rw [hvP] at hcsP
  injection hcsP with hcsP
  subst hcsP
  have ltP := oP.lt
  have neAP : w2.heap.size ≠ bP := Nat.ne_of_lt (Nat.lt_of_lt_of_le ltA lbP)
  have neCP : w3.heap.size ≠ bP := Nat.ne_of_lt (Nat.lt_of_lt_of_le ltC lbP)
  have neXP : bX ≠ bP := Nat.ne_of_lt (Nat.lt_of_lt_of_le ltX lbP)
  have neMP : bM ≠ bP := Nat.ne_of_lt (Nat.lt_of_lt_of_le ltM lbP)
  have lwP : w.heap.size ≤ bP := Nat.le_trans hbw0.size lbP
  clear lbP
  replace ltA := Nat.lt_of_lt_of_le ltA fs
  replace ltC := Nat.lt_of_lt_of_le ltC fs
  replace ltX := Nat.lt_of_lt_of_le ltX fs
  replace ltM := Nat.lt_of_lt_of_le ltM fs
  clear g0
  clear g1
  clear g2
  clear g3
  clear g4
  clear g5
  clear g6
  clear g7
  clear hbw0
  simp only [setM_some, setM_none, setM_nil]
  rw [hpP]
  clear hpP hvP
  clear fk fs
  have eC : U6 14 = _ := g10
  clear g10
  rw [eC]
  clear eC
  obtain ⟨ca, HA⟩ : ∃ c, Hid (addC q (k : Rat) = c) := ⟨_, rfl⟩
  obtain ⟨cf, HF2⟩ : ∃ c, Hid (ec (fl + k) = c) := ⟨_, rfl⟩
  obtain ⟨cg, HL2⟩ : ∃ c, Hid (ec (cl + k) = c) := ⟨_, rfl⟩
  rw [HA.out, HF2.out, HL2.out]
  by_cases h1 : ca = 0
  · have E1 : (ca != 0) = false := by rw [bne_eq_false_iff_eq]; exact h1
    have H1 : Hid (ca = 0) := h1
    clear h1
    by_cases h2 : cf = 0
    · have E2 : (cf != 0) = false := by rw [bne_eq_false_iff_eq]; exact h2
      have H2 : Hid (cf = 0) := h2
      clear h2
      by_cases h3 : cg = 0
      · have E3 : (cg != 0) = false := by rw [bne_eq_false_iff_eq]; exact h3
        have H3 : Hid (cg = 0) := h3
        clear h3
        rw [hz_ec (HF2.out.trans H2.out)] at hM
        rw [hz_ec (HL2.out.trans H3.out)] at hP
        rw [addC_zz (HA.out.trans H1.out)] at hX
        have HZ1 : Hid ((q + (k : Rat)).floor = fl + k) := by show _ = _; rw [Rat.floor_add_intCast, HF.out]
        have HZ2 : Hid ((q + (k : Rat)).ceil = cl + k) := by show _ = _; rw [Rat.ceil_add_intCast, HL.out]
        go_wp2
        refine wp_region_M (by kernel_rfl) [4, 51, 52, 53, 54, 55, 56, 57, 58, 59, 60, 61, 62, 63, 64, 65, 66, 67, 68, 69, 70, 71, 72, 73, 74] [none, none, none, none, some 4, none, none, none, none, none, none, none, none, none, none, none, none, none, none, none, none, none, none, none, none, none, none, none, none, none, none, none, none, none, none, none, none, none, none, none, none, none, none, none, none, none, none, none, none, none, none, some 51, some 52, some 53, some 54, some 55, some 56, some 57, some 58, some 59, some 60, some 61, some 62, some 63, some 64, some 65, some 66, some 67, some 68, some 69, some 70, some 71, some 72, some 73, some 74] (fun U => by kernel_rfl) (fun L U wr => Below w.heap.size w wr ∧ KeepI V6 wr ∧ V6.heap.size ≤ wr.heap.size ∧ Blk 27 wr (bX) #[.bool xX, .slice aX nX cX, .bool yX, .slice eX mX fX] ∧ Blk 25 wr (bM) #[.bool xM, .slice aM nM cM] ∧ Blk 25 wr (bP) #[.bool xP, .slice aP nP cP] ∧ (L 0 = true → IS (.int .i64 ca) (U 51) wr) ∧ (L 1 = true → IS (.bool false) (U 52) wr) ∧ (L 2 = true → IS (.bool false) (U 53) wr) ∧ (L 3 = true → IS (.int .i64 cf) (U 54) wr) ∧ (L 4 = true → IS (.bool false) (U 55) wr) ∧ (L 5 = true → IS (.bool false) (U 56) wr) ∧ (L 6 = true → IS (.bool false) (U 57) wr) ∧ (L 7 = true → IS (.int .i64 cg) (U 58) wr) ∧ (L 8 = true → IS (.bool false) (U 59) wr) ∧ (L 9 = true → IS (.bool false) (U 60) wr) ∧ (L 10 = true → IS (.bool false) (U 61) wr) ∧ (L 11 = true → IS (.agg #[.bool xX, .slice aX nX cX, .bool yX, .slice eX mX fX]) (U 62) wr) ∧ (L 12 = true → INT (fl + k) (U 63) wr) ∧ (L 13 = true → IS (.agg #[.bool xM, .slice aM nM cM]) (U 64) wr) ∧ (L 14 = true → IS (.int .i64 0) (U 65) wr) ∧ (L 15 = true → IS (.bool true) (U 66) wr) ∧ (L 16 = true → IS (.bool true) (U 67) wr) ∧ (L 17 = true → IS (.agg #[.bool xX, .slice aX nX cX, .bool yX, .slice eX mX fX]) (U 68) wr) ∧ (L 18 = true → INT (cl + k) (U 69) wr) ∧ (L 19 = true → IS (.agg #[.bool xP, .slice aP nP cP]) (U 70) wr) ∧ (L 20 = true → IS (.int .i64 0) (U 71) wr) ∧ (L 21 = true → IS (.bool true) (U 72) wr) ∧ (L 22 = true → IS (.bool true) (U 73) wr) ∧ (L 23 = true → IS (.bool true) (U 74) wr) ∧ (L 24 = true → IS (.bool true) (U 4) wr)) (by kernel_rfl) ?_ ?_ ?_
        · exact fun U => ⟨hbw.drew, KeepI.below (Below.refl _ _).drew, Nat.le_refl _, oX.drew, oM.drew, oP.drew, (fun h => by cases h), (fun h => by cases h), (fun h => by cases h), (fun h => by cases h), (fun h => by cases h), (fun h => by cases h), (fun h => by cases h), (fun h => by cases h), (fun h => by cases h), (fun h => by cases h), (fun h => by cases h), (fun h => by cases h), (fun h => by cases h), (fun h => by cases h), (fun h => by cases h), (fun h => by cases h), (fun h => by cases h), (fun h => by cases h), (fun h => by cases h), (fun h => by cases h), (fun h => by cases h), (fun h => by cases h), (fun h => by cases h), (fun h => by cases h), (fun h => by cases h)⟩
        · refine StepsU.run rfl ?_ ?_
          · intro L U wr hF hlk haf A K hA hK
            have HA : Hid (A = putAll _ _ U) := hA
            clear hA
            simp [Aft, Region.binds] at haf
            obtain ⟨fb, fk, fs, oX, oM, oP, f0, f1, f2, f3, f4, f5, f6, f7, f8, f9, f10, f11, f12, f13, f14, f15, f16, f17, f18, f19, f20, f21, f22, f23, f24⟩ := hF
            have e10 : A.tmps[10]? = some (.int .i64 ca) := by rw [HA.out]; kernel_rfl
            refine ⟨?_⟩
            go_simp
            refine hK (upd U 51 (.int .i64 ca)) _ _ ?_ ?_
            · rw [HA.out]; kernel_rfl
            · exact ⟨fb, fk, fs, oX, oM, oP, (fun _ => rfl), f1, f2, f3, f4, f5, f6, f7, f8, f9, f10, f11, f12, f13, f14, f15, f16, f17, f18, f19, f20, f21, f22, f23, f24⟩
          refine StepsU.run rfl ?_ ?_
          · intro L U wr hF hlk haf A K hA hK
            have HA : Hid (A = putAll _ _ U) := hA
            clear hA
            simp [Aft, Region.binds] at haf
            obtain ⟨fb, fk, fs, oX, oM, oP, f0, f1, f2, f3, f4, f5, f6, f7, f8, f9, f10, f11, f12, f13, f14, f15, f16, f17, f18, f19, f20, f21, f22, f23, f24⟩ := hF
            have g0 := f0 (by simp [haf])
            have e51 := rd HA.out 51 (by kernel_rfl) g0
            refine ⟨?_⟩
            go_simp
            refine hK (upd U 52 (.bool false)) _ _ ?_ ?_
            · rw [HA.out]; kernel_rfl
            · exact ⟨fb, fk, fs, oX, oM, oP, f0, (fun _ => rfl), f2, f3, f4, f5, f6, f7, f8, f9, f10, f11, f12, f13, f14, f15, f16, f17, f18, f19, f20, f21, f22, f23, f24⟩
          refine StepsU.run rfl ?_ ?_
          · intro L U wr hF hlk haf A K hA hK
            have HA : Hid (A = putAll _ _ U) := hA
            clear hA
            simp [Aft, Region.binds] at haf
            obtain ⟨fb, fk, fs, oX, oM, oP, f0, f1, f2, f3, f4, f5, f6, f7, f8, f9, f10, f11, f12, f13, f14, f15, f16, f17, f18, f19, f20, f21, f22, f23, f24⟩ := hF
            have g1 := f1 (by simp [haf])
            have e52 := rd HA.out 52 (by kernel_rfl) rfl
            refine ⟨?_⟩
            go_simp
            refine hK (upd U 53 (U 52)) _ _ ?_ ?_
            · rw [HA.out]; kernel_rfl
            · exact ⟨fb, fk, fs, oX, oM, oP, f0, f1, (fun _ => g1), f3, f4, f5, f6, f7, f8, f9, f10, f11, f12, f13, f14, f15, f16, f17, f18, f19, f20, f21, f22, f23, f24⟩
          refine StepsU.cond ?_ ?_
          · intro L U wr hF hlk haf A K hA hK
            have HA : Hid (A = putAll _ _ U) := hA
            clear hA
            simp [Aft, Region.binds] at haf
            obtain ⟨fb, fk, fs, oX, oM, oP, f0, f1, f2, f3, f4, f5, f6, f7, f8, f9, f10, f11, f12, f13, f14, f15, f16, f17, f18, f19, f20, f21, f22, f23, f24⟩ := hF
            have gg := f2 (by simp [haf])
            have ee := rd HA.out 53 (by kernel_rfl) gg
            refine ⟨?_⟩
            rw [if_pos (by simp [Region.wanted, yielded, ee])]
            refine Gate.out ?_
            clear gg ee
            have e12 : A.tmps[12]? = some (.int .i64 cf) := by rw [HA.out]; kernel_rfl
            refine ⟨?_⟩
            go_simp
            refine hK (upd U 54 (.int .i64 cf)) _ _ ?_ ?_
            · rw [HA.out]; kernel_rfl
            · exact ⟨fb, fk, fs, oX, oM, oP, f0, f1, f2, (fun _ => rfl), f4, f5, f6, f7, f8, f9, f10, f11, f12, f13, f14, f15, f16, f17, f18, f19, f20, f21, f22, f23, f24⟩
          refine StepsU.cond ?_ ?_
          · intro L U wr hF hlk haf A K hA hK
            have HA : Hid (A = putAll _ _ U) := hA
            clear hA
            simp [Aft, Region.binds] at haf
            obtain ⟨fb, fk, fs, oX, oM, oP, f0, f1, f2, f3, f4, f5, f6, f7, f8, f9, f10, f11, f12, f13, f14, f15, f16, f17, f18, f19, f20, f21, f22, f23, f24⟩ := hF
            have gg := f2 (by simp [haf])
            have ee := rd HA.out 53 (by kernel_rfl) gg
            refine ⟨?_⟩
            rw [if_pos (by simp [Region.wanted, yielded, ee])]
            refine Gate.out ?_
            clear gg ee
            have g3 := f3 (by simp [haf])
            have e54 := rd HA.out 54 (by kernel_rfl) g3
            refine ⟨?_⟩
            go_simp
            refine hK (upd U 55 (.bool false)) _ _ ?_ ?_
            · rw [HA.out]; kernel_rfl
            · exact ⟨fb, fk, fs, oX, oM, oP, f0, f1, f2, f3, (fun _ => rfl), f5, f6, f7, f8, f9, f10, f11, f12, f13, f14, f15, f16, f17, f18, f19, f20, f21, f22, f23, f24⟩
          refine StepsU.run rfl ?_ ?_
          · intro L U wr hF hlk haf A K hA hK
            have HA : Hid (A = putAll _ _ U) := hA
            clear hA
            simp [Aft, Region.binds] at haf
            obtain ⟨fb, fk, fs, oX, oM, oP, f0, f1, f2, f3, f4, f5, f6, f7, f8, f9, f10, f11, f12, f13, f14, f15, f16, f17, f18, f19, f20, f21, f22, f23, f24⟩ := hF
            have g2 := f2 (by simp [haf])
            have g4 := f4 (by simp [haf])
            have e53 := rd HA.out 53 (by kernel_rfl) g2
            have e55 := rd HA.out 55 (by kernel_rfl) g4
            refine ⟨?_⟩
            go_simp
            refine hK (upd U 56 (.bool false)) _ _ ?_ ?_
            · rw [HA.out]; kernel_rfl
            · exact ⟨fb, fk, fs, oX, oM, oP, f0, f1, f2, f3, f4, (fun _ => rfl), f6, f7, f8, f9, f10, f11, f12, f13, f14, f15, f16, f17, f18, f19, f20, f21, f22, f23, f24⟩
          refine StepsU.run rfl ?_ ?_
          · intro L U wr hF hlk haf A K hA hK
            have HA : Hid (A = putAll _ _ U) := hA
            clear hA
            simp [Aft, Region.binds] at haf
            obtain ⟨fb, fk, fs, oX, oM, oP, f0, f1, f2, f3, f4, f5, f6, f7, f8, f9, f10, f11, f12, f13, f14, f15, f16, f17, f18, f19, f20, f21, f22, f23, f24⟩ := hF
            have g5 := f5 (by simp [haf])
            have e56 := rd HA.out 56 (by kernel_rfl) rfl
            refine ⟨?_⟩
            go_simp
            refine hK (upd U 57 (U 56)) _ _ ?_ ?_
            · rw [HA.out]; kernel_rfl
            · exact ⟨fb, fk, fs, oX, oM, oP, f0, f1, f2, f3, f4, f5, (fun _ => g5), f7, f8, f9, f10, f11, f12, f13, f14, f15, f16, f17, f18, f19, f20, f21, f22, f23, f24⟩
          refine StepsU.cond ?_ ?_
          · intro L U wr hF hlk haf A K hA hK
            have HA : Hid (A = putAll _ _ U) := hA
            clear hA
            simp [Aft, Region.binds] at haf
            obtain ⟨fb, fk, fs, oX, oM, oP, f0, f1, f2, f3, f4, f5, f6, f7, f8, f9, f10, f11, f12, f13, f14, f15, f16, f17, f18, f19, f20, f21, f22, f23, f24⟩ := hF
            have gg := f6 (by simp [haf])
            have ee := rd HA.out 57 (by kernel_rfl) gg
            refine ⟨?_⟩
            rw [if_pos (by simp [Region.wanted, yielded, ee])]
            refine Gate.out ?_
            clear gg ee
            have e14 : A.tmps[14]? = some (.int .i64 cg) := by rw [HA.out]; kernel_rfl
            refine ⟨?_⟩
            go_simp
            refine hK (upd U 58 (.int .i64 cg)) _ _ ?_ ?_
            · rw [HA.out]; kernel_rfl
            · exact ⟨fb, fk, fs, oX, oM, oP, f0, f1, f2, f3, f4, f5, f6, (fun _ => rfl), f8, f9, f10, f11, f12, f13, f14, f15, f16, f17, f18, f19, f20, f21, f22, f23, f24⟩
          refine StepsU.cond ?_ ?_
          · intro L U wr hF hlk haf A K hA hK
            have HA : Hid (A = putAll _ _ U) := hA
            clear hA
            simp [Aft, Region.binds] at haf
            obtain ⟨fb, fk, fs, oX, oM, oP, f0, f1, f2, f3, f4, f5, f6, f7, f8, f9, f10, f11, f12, f13, f14, f15, f16, f17, f18, f19, f20, f21, f22, f23, f24⟩ := hF
            have gg := f6 (by simp [haf])
            have ee := rd HA.out 57 (by kernel_rfl) gg
            refine ⟨?_⟩
            rw [if_pos (by simp [Region.wanted, yielded, ee])]
            refine Gate.out ?_
            clear gg ee
            have g7 := f7 (by simp [haf])
            have e58 := rd HA.out 58 (by kernel_rfl) g7
            refine ⟨?_⟩
            go_simp
            refine hK (upd U 59 (.bool false)) _ _ ?_ ?_
            · rw [HA.out]; kernel_rfl
            · exact ⟨fb, fk, fs, oX, oM, oP, f0, f1, f2, f3, f4, f5, f6, f7, (fun _ => rfl), f9, f10, f11, f12, f13, f14, f15, f16, f17, f18, f19, f20, f21, f22, f23, f24⟩
          refine StepsU.run rfl ?_ ?_
          · intro L U wr hF hlk haf A K hA hK
            have HA : Hid (A = putAll _ _ U) := hA
            clear hA
            simp [Aft, Region.binds] at haf
            obtain ⟨fb, fk, fs, oX, oM, oP, f0, f1, f2, f3, f4, f5, f6, f7, f8, f9, f10, f11, f12, f13, f14, f15, f16, f17, f18, f19, f20, f21, f22, f23, f24⟩ := hF
            have g6 := f6 (by simp [haf])
            have g8 := f8 (by simp [haf])
            have e57 := rd HA.out 57 (by kernel_rfl) g6
            have e59 := rd HA.out 59 (by kernel_rfl) g8
            refine ⟨?_⟩
            go_simp
            refine hK (upd U 60 (.bool false)) _ _ ?_ ?_
            · rw [HA.out]; kernel_rfl
            · exact ⟨fb, fk, fs, oX, oM, oP, f0, f1, f2, f3, f4, f5, f6, f7, f8, (fun _ => rfl), f10, f11, f12, f13, f14, f15, f16, f17, f18, f19, f20, f21, f22, f23, f24⟩
          refine StepsU.run rfl ?_ ?_
          · intro L U wr hF hlk haf A K hA hK
            have HA : Hid (A = putAll _ _ U) := hA
            clear hA
            simp [Aft, Region.binds] at haf
            obtain ⟨fb, fk, fs, oX, oM, oP, f0, f1, f2, f3, f4, f5, f6, f7, f8, f9, f10, f11, f12, f13, f14, f15, f16, f17, f18, f19, f20, f21, f22, f23, f24⟩ := hF
            have g9 := f9 (by simp [haf])
            have e60 := rd HA.out 60 (by kernel_rfl) rfl
            refine ⟨?_⟩
            go_simp
            refine hK (upd U 61 (U 60)) _ _ ?_ ?_
            · rw [HA.out]; kernel_rfl
            · exact ⟨fb, fk, fs, oX, oM, oP, f0, f1, f2, f3, f4, f5, f6, f7, f8, f9, (fun _ => g9), f11, f12, f13, f14, f15, f16, f17, f18, f19, f20, f21, f22, f23, f24⟩
          refine StepsU.cond ?_ ?_
          · intro L U wr hF hlk haf A K hA hK
            have HA : Hid (A = putAll _ _ U) := hA
            clear hA
            simp [Aft, Region.binds] at haf
            obtain ⟨fb, fk, fs, oX, oM, oP, f0, f1, f2, f3, f4, f5, f6, f7, f8, f9, f10, f11, f12, f13, f14, f15, f16, f17, f18, f19, f20, f21, f22, f23, f24⟩ := hF
            have gg := f10 (by simp [haf])
            have ee := rd HA.out 61 (by kernel_rfl) gg
            refine ⟨?_⟩
            rw [if_pos (by simp [Region.wanted, yielded, ee])]
            refine Gate.out ?_
            clear gg ee
            have e9 : A.tmps[9]? = some (.pointer (some ⟨bX, 0, none⟩)) := by rw [HA.out]; kernel_rfl
            obtain ⟨c0, c1, c2, c3⟩ := oX.four
            refine ⟨?_⟩
            go_simp
            refine hK (upd U 62 (.agg #[.bool xX, .slice aX nX cX, .bool yX, .slice eX mX fX])) _ _ ?_ ?_
            · rw [HA.out]; kernel_rfl
            · exact ⟨fb, fk, fs, oX, oM, oP, f0, f1, f2, f3, f4, f5, f6, f7, f8, f9, f10, (fun _ => rfl), f12, f13, f14, f15, f16, f17, f18, f19, f20, f21, f22, f23, f24⟩
          refine StepsU.cond ?_ ?_
          · intro L U wr hF hlk haf A K hA hK
            have HA : Hid (A = putAll _ _ U) := hA
            clear hA
            simp [Aft, Region.binds] at haf
            obtain ⟨fb, fk, fs, oX, oM, oP, f0, f1, f2, f3, f4, f5, f6, f7, f8, f9, f10, f11, f12, f13, f14, f15, f16, f17, f18, f19, f20, f21, f22, f23, f24⟩ := hF
            have gg := f10 (by simp [haf])
            have ee := rd HA.out 61 (by kernel_rfl) gg
            refine ⟨?_⟩
            rw [if_pos (by simp [Region.wanted, yielded, ee])]
            refine Gate.out ?_
            clear gg ee
            have g11 := f11 (by simp [haf])
            have e62 := rd HA.out 62 (by kernel_rfl) g11
            refine ⟨?_⟩
            go_simp
            refine (floor_any _ (q + (k : Rat)) (fl + k) _ (hX.val.keepI fk) HZ1.out).mono ?_
            rintro e w1 ⟨u1, u2, u3, u4, rfl, hr, hb⟩
            go_simp
            refine hK (upd U 63 (.agg #[.bool u1, .slice u2 u3 u4])) _ _ ?_ ?_
            · rw [HA.out]; kernel_rfl
            · exact ⟨(fb.step hb (Nat.le_refl _)), (fk.trans (KeepI.below hb)), (Nat.le_trans fs hb.size), (oX.stay hb), (oM.stay hb), (oP.stay hb), (mv mo_is (KeepI.below hb) f0), (mv mo_is (KeepI.below hb) f1), (mv mo_is (KeepI.below hb) f2), (mv mo_is (KeepI.below hb) f3), (mv mo_is (KeepI.below hb) f4), (mv mo_is (KeepI.below hb) f5), (mv mo_is (KeepI.below hb) f6), (mv mo_is (KeepI.below hb) f7), (mv mo_is (KeepI.below hb) f8), (mv mo_is (KeepI.below hb) f9), (mv mo_is (KeepI.below hb) f10), (mv mo_is (KeepI.below hb) f11), (fun _ => hr), (mv mo_is (KeepI.below hb) f13), (mv mo_is (KeepI.below hb) f14), (mv mo_is (KeepI.below hb) f15), (mv mo_is (KeepI.below hb) f16), (mv mo_is (KeepI.below hb) f17), (mv mo_int (KeepI.below hb) f18), (mv mo_is (KeepI.below hb) f19), (mv mo_is (KeepI.below hb) f20), (mv mo_is (KeepI.below hb) f21), (mv mo_is (KeepI.below hb) f22), (mv mo_is (KeepI.below hb) f23), (mv mo_is (KeepI.below hb) f24)⟩
          refine StepsU.cond ?_ ?_
          · intro L U wr hF hlk haf A K hA hK
            have HA : Hid (A = putAll _ _ U) := hA
            clear hA
            simp [Aft, Region.binds] at haf
            obtain ⟨fb, fk, fs, oX, oM, oP, f0, f1, f2, f3, f4, f5, f6, f7, f8, f9, f10, f11, f12, f13, f14, f15, f16, f17, f18, f19, f20, f21, f22, f23, f24⟩ := hF
            have gg := f10 (by simp [haf])
            have ee := rd HA.out 61 (by kernel_rfl) gg
            refine ⟨?_⟩
            rw [if_pos (by simp [Region.wanted, yielded, ee])]
            refine Gate.out ?_
            clear gg ee
            have e11 : A.tmps[11]? = some (.pointer (some ⟨bM, 0, none⟩)) := by rw [HA.out]; kernel_rfl
            obtain ⟨c0, c1, -, -⟩ := oM.two
            refine ⟨?_⟩
            go_simp
            refine hK (upd U 64 (.agg #[.bool xM, .slice aM nM cM])) _ _ ?_ ?_
            · rw [HA.out]; kernel_rfl
            · exact ⟨fb, fk, fs, oX, oM, oP, f0, f1, f2, f3, f4, f5, f6, f7, f8, f9, f10, f11, f12, (fun _ => rfl), f14, f15, f16, f17, f18, f19, f20, f21, f22, f23, f24⟩
          refine StepsU.cond ?_ ?_
          · intro L U wr hF hlk haf A K hA hK
            have HA : Hid (A = putAll _ _ U) := hA
            clear hA
            simp [Aft, Region.binds] at haf
            obtain ⟨fb, fk, fs, oX, oM, oP, f0, f1, f2, f3, f4, f5, f6, f7, f8, f9, f10, f11, f12, f13, f14, f15, f16, f17, f18, f19, f20, f21, f22, f23, f24⟩ := hF
            have gg := f10 (by simp [haf])
            have ee := rd HA.out 61 (by kernel_rfl) gg
            refine ⟨?_⟩
            rw [if_pos (by simp [Region.wanted, yielded, ee])]
            refine Gate.out ?_
            clear gg ee
            have g12 := f12 (by simp [haf])
            have e63 := rd HA.out 63 (by kernel_rfl) rfl
            have g13 := f13 (by simp [haf])
            have e64 := rd HA.out 64 (by kernel_rfl) g13
            refine ⟨?_⟩
            go_simp
            refine (cmp_h _ _ (fl + k) (fl + k) 0 _ g12 (hM.keepI fk) (by simp)).mono ?_
            rintro e w1 ⟨rfl, hb⟩
            go_simp
            refine hK (upd U 65 (.int .i64 0)) _ _ ?_ ?_
            · rw [HA.out]; kernel_rfl
            · exact ⟨(fb.step hb (Nat.le_refl _)), (fk.trans (KeepI.below hb)), (Nat.le_trans fs hb.size), (oX.stay hb), (oM.stay hb), (oP.stay hb), (mv mo_is (KeepI.below hb) f0), (mv mo_is (KeepI.below hb) f1), (mv mo_is (KeepI.below hb) f2), (mv mo_is (KeepI.below hb) f3), (mv mo_is (KeepI.below hb) f4), (mv mo_is (KeepI.below hb) f5), (mv mo_is (KeepI.below hb) f6), (mv mo_is (KeepI.below hb) f7), (mv mo_is (KeepI.below hb) f8), (mv mo_is (KeepI.below hb) f9), (mv mo_is (KeepI.below hb) f10), (mv mo_is (KeepI.below hb) f11), (mv mo_int (KeepI.below hb) f12), (mv mo_is (KeepI.below hb) f13), (fun _ => rfl), (mv mo_is (KeepI.below hb) f15), (mv mo_is (KeepI.below hb) f16), (mv mo_is (KeepI.below hb) f17), (mv mo_int (KeepI.below hb) f18), (mv mo_is (KeepI.below hb) f19), (mv mo_is (KeepI.below hb) f20), (mv mo_is (KeepI.below hb) f21), (mv mo_is (KeepI.below hb) f22), (mv mo_is (KeepI.below hb) f23), (mv mo_is (KeepI.below hb) f24)⟩
          refine StepsU.cond ?_ ?_
          · intro L U wr hF hlk haf A K hA hK
            have HA : Hid (A = putAll _ _ U) := hA
            clear hA
            simp [Aft, Region.binds] at haf
            obtain ⟨fb, fk, fs, oX, oM, oP, f0, f1, f2, f3, f4, f5, f6, f7, f8, f9, f10, f11, f12, f13, f14, f15, f16, f17, f18, f19, f20, f21, f22, f23, f24⟩ := hF
            have gg := f10 (by simp [haf])
            have ee := rd HA.out 61 (by kernel_rfl) gg
            refine ⟨?_⟩
            rw [if_pos (by simp [Region.wanted, yielded, ee])]
            refine Gate.out ?_
            clear gg ee
            have g14 := f14 (by simp [haf])
            have e65 := rd HA.out 65 (by kernel_rfl) g14
            refine ⟨?_⟩
            go_simp
            refine hK (upd U 66 (.bool true)) _ _ ?_ ?_
            · rw [HA.out]; kernel_rfl
            · exact ⟨fb, fk, fs, oX, oM, oP, f0, f1, f2, f3, f4, f5, f6, f7, f8, f9, f10, f11, f12, f13, f14, (fun _ => rfl), f16, f17, f18, f19, f20, f21, f22, f23, f24⟩
          refine StepsU.cond ?_ ?_
          · intro L U wr hF hlk haf A K hA hK
            have HA : Hid (A = putAll _ _ U) := hA
            clear hA
            simp [Aft, Region.binds] at haf
            obtain ⟨fb, fk, fs, oX, oM, oP, f0, f1, f2, f3, f4, f5, f6, f7, f8, f9, f10, f11, f12, f13, f14, f15, f16, f17, f18, f19, f20, f21, f22, f23, f24⟩ := hF
            have gg := f10 (by simp [haf])
            have ee := rd HA.out 61 (by kernel_rfl) gg
            refine ⟨?_⟩
            rw [if_pos (by simp [Region.wanted, yielded, ee])]
            refine Gate.out ?_
            clear gg ee
            have g15 := f15 (by simp [haf])
            have e66 := rd HA.out 66 (by kernel_rfl) rfl
            refine ⟨?_⟩
            go_simp
            refine hK (upd U 67 (U 66)) _ _ ?_ ?_
            · rw [HA.out]; kernel_rfl
            · exact ⟨fb, fk, fs, oX, oM, oP, f0, f1, f2, f3, f4, f5, f6, f7, f8, f9, f10, f11, f12, f13, f14, f15, (fun _ => g15), f17, f18, f19, f20, f21, f22, f23, f24⟩
          refine StepsU.cond ?_ ?_
          · intro L U wr hF hlk haf A K hA hK
            have HA : Hid (A = putAll _ _ U) := hA
            clear hA
            simp [Aft, Region.binds] at haf
            obtain ⟨fb, fk, fs, oX, oM, oP, f0, f1, f2, f3, f4, f5, f6, f7, f8, f9, f10, f11, f12, f13, f14, f15, f16, f17, f18, f19, f20, f21, f22, f23, f24⟩ := hF
            have gg := f16 (by simp [haf])
            have ee := rd HA.out 67 (by kernel_rfl) gg
            refine ⟨?_⟩
            rw [if_pos (by simp [Region.wanted, yielded, ee])]
            refine Gate.out ?_
            clear gg ee
            have e9 : A.tmps[9]? = some (.pointer (some ⟨bX, 0, none⟩)) := by rw [HA.out]; kernel_rfl
            obtain ⟨c0, c1, c2, c3⟩ := oX.four
            refine ⟨?_⟩
            go_simp
            refine hK (upd U 68 (.agg #[.bool xX, .slice aX nX cX, .bool yX, .slice eX mX fX])) _ _ ?_ ?_
            · rw [HA.out]; kernel_rfl
            · exact ⟨fb, fk, fs, oX, oM, oP, f0, f1, f2, f3, f4, f5, f6, f7, f8, f9, f10, f11, f12, f13, f14, f15, f16, (fun _ => rfl), f18, f19, f20, f21, f22, f23, f24⟩
          refine StepsU.cond ?_ ?_
          · intro L U wr hF hlk haf A K hA hK
            have HA : Hid (A = putAll _ _ U) := hA
            clear hA
            simp [Aft, Region.binds] at haf
            obtain ⟨fb, fk, fs, oX, oM, oP, f0, f1, f2, f3, f4, f5, f6, f7, f8, f9, f10, f11, f12, f13, f14, f15, f16, f17, f18, f19, f20, f21, f22, f23, f24⟩ := hF
            have gg := f16 (by simp [haf])
            have ee := rd HA.out 67 (by kernel_rfl) gg
            refine ⟨?_⟩
            rw [if_pos (by simp [Region.wanted, yielded, ee])]
            refine Gate.out ?_
            clear gg ee
            have g17 := f17 (by simp [haf])
            have e68 := rd HA.out 68 (by kernel_rfl) g17
            refine ⟨?_⟩
            go_simp
            refine (ceil_any _ (q + (k : Rat)) (cl + k) _ (hX.val.keepI fk) HZ2.out).mono ?_
            rintro e w1 ⟨u1, u2, u3, u4, rfl, hr, hb⟩
            go_simp
            refine hK (upd U 69 (.agg #[.bool u1, .slice u2 u3 u4])) _ _ ?_ ?_
            · rw [HA.out]; kernel_rfl
            · exact ⟨(fb.step hb (Nat.le_refl _)), (fk.trans (KeepI.below hb)), (Nat.le_trans fs hb.size), (oX.stay hb), (oM.stay hb), (oP.stay hb), (mv mo_is (KeepI.below hb) f0), (mv mo_is (KeepI.below hb) f1), (mv mo_is (KeepI.below hb) f2), (mv mo_is (KeepI.below hb) f3), (mv mo_is (KeepI.below hb) f4), (mv mo_is (KeepI.below hb) f5), (mv mo_is (KeepI.below hb) f6), (mv mo_is (KeepI.below hb) f7), (mv mo_is (KeepI.below hb) f8), (mv mo_is (KeepI.below hb) f9), (mv mo_is (KeepI.below hb) f10), (mv mo_is (KeepI.below hb) f11), (mv mo_int (KeepI.below hb) f12), (mv mo_is (KeepI.below hb) f13), (mv mo_is (KeepI.below hb) f14), (mv mo_is (KeepI.below hb) f15), (mv mo_is (KeepI.below hb) f16), (mv mo_is (KeepI.below hb) f17), (fun _ => hr), (mv mo_is (KeepI.below hb) f19), (mv mo_is (KeepI.below hb) f20), (mv mo_is (KeepI.below hb) f21), (mv mo_is (KeepI.below hb) f22), (mv mo_is (KeepI.below hb) f23), (mv mo_is (KeepI.below hb) f24)⟩
          refine StepsU.cond ?_ ?_
          · intro L U wr hF hlk haf A K hA hK
            have HA : Hid (A = putAll _ _ U) := hA
            clear hA
            simp [Aft, Region.binds] at haf
            obtain ⟨fb, fk, fs, oX, oM, oP, f0, f1, f2, f3, f4, f5, f6, f7, f8, f9, f10, f11, f12, f13, f14, f15, f16, f17, f18, f19, f20, f21, f22, f23, f24⟩ := hF
            have gg := f16 (by simp [haf])
            have ee := rd HA.out 67 (by kernel_rfl) gg
            refine ⟨?_⟩
            rw [if_pos (by simp [Region.wanted, yielded, ee])]
            refine Gate.out ?_
            clear gg ee
            have e13 : A.tmps[13]? = some (.pointer (some ⟨bP, 0, none⟩)) := by rw [HA.out]; kernel_rfl
            obtain ⟨c0, c1, -, -⟩ := oP.two
            refine ⟨?_⟩
            go_simp
            refine hK (upd U 70 (.agg #[.bool xP, .slice aP nP cP])) _ _ ?_ ?_
            · rw [HA.out]; kernel_rfl
            · exact ⟨fb, fk, fs, oX, oM, oP, f0, f1, f2, f3, f4, f5, f6, f7, f8, f9, f10, f11, f12, f13, f14, f15, f16, f17, f18, (fun _ => rfl), f20, f21, f22, f23, f24⟩
          refine StepsU.cond ?_ ?_
          · intro L U wr hF hlk haf A K hA hK
            have HA : Hid (A = putAll _ _ U) := hA
            clear hA
            simp [Aft, Region.binds] at haf
            obtain ⟨fb, fk, fs, oX, oM, oP, f0, f1, f2, f3, f4, f5, f6, f7, f8, f9, f10, f11, f12, f13, f14, f15, f16, f17, f18, f19, f20, f21, f22, f23, f24⟩ := hF
            have gg := f16 (by simp [haf])
            have ee := rd HA.out 67 (by kernel_rfl) gg
            refine ⟨?_⟩
            rw [if_pos (by simp [Region.wanted, yielded, ee])]
            refine Gate.out ?_
            clear gg ee
            have g18 := f18 (by simp [haf])
            have e69 := rd HA.out 69 (by kernel_rfl) rfl
            have g19 := f19 (by simp [haf])
            have e70 := rd HA.out 70 (by kernel_rfl) g19
            refine ⟨?_⟩
            go_simp
            refine (cmp_h _ _ (cl + k) (cl + k) 0 _ g18 (hP.keepI fk) (by simp)).mono ?_
            rintro e w1 ⟨rfl, hb⟩
            go_simp
            refine hK (upd U 71 (.int .i64 0)) _ _ ?_ ?_
            · rw [HA.out]; kernel_rfl
            · exact ⟨(fb.step hb (Nat.le_refl _)), (fk.trans (KeepI.below hb)), (Nat.le_trans fs hb.size), (oX.stay hb), (oM.stay hb), (oP.stay hb), (mv mo_is (KeepI.below hb) f0), (mv mo_is (KeepI.below hb) f1), (mv mo_is (KeepI.below hb) f2), (mv mo_is (KeepI.below hb) f3), (mv mo_is (KeepI.below hb) f4), (mv mo_is (KeepI.below hb) f5), (mv mo_is (KeepI.below hb) f6), (mv mo_is (KeepI.below hb) f7), (mv mo_is (KeepI.below hb) f8), (mv mo_is (KeepI.below hb) f9), (mv mo_is (KeepI.below hb) f10), (mv mo_is (KeepI.below hb) f11), (mv mo_int (KeepI.below hb) f12), (mv mo_is (KeepI.below hb) f13), (mv mo_is (KeepI.below hb) f14), (mv mo_is (KeepI.below hb) f15), (mv mo_is (KeepI.below hb) f16), (mv mo_is (KeepI.below hb) f17), (mv mo_int (KeepI.below hb) f18), (mv mo_is (KeepI.below hb) f19), (fun _ => rfl), (mv mo_is (KeepI.below hb) f21), (mv mo_is (KeepI.below hb) f22), (mv mo_is (KeepI.below hb) f23), (mv mo_is (KeepI.below hb) f24)⟩
          refine StepsU.cond ?_ ?_
          · intro L U wr hF hlk haf A K hA hK
            have HA : Hid (A = putAll _ _ U) := hA
            clear hA
            simp [Aft, Region.binds] at haf
            obtain ⟨fb, fk, fs, oX, oM, oP, f0, f1, f2, f3, f4, f5, f6, f7, f8, f9, f10, f11, f12, f13, f14, f15, f16, f17, f18, f19, f20, f21, f22, f23, f24⟩ := hF
            have gg := f16 (by simp [haf])
            have ee := rd HA.out 67 (by kernel_rfl) gg
            refine ⟨?_⟩
            rw [if_pos (by simp [Region.wanted, yielded, ee])]
            refine Gate.out ?_
            clear gg ee
            have g20 := f20 (by simp [haf])
            have e71 := rd HA.out 71 (by kernel_rfl) g20
            refine ⟨?_⟩
            go_simp
            refine hK (upd U 72 (.bool true)) _ _ ?_ ?_
            · rw [HA.out]; kernel_rfl
            · exact ⟨fb, fk, fs, oX, oM, oP, f0, f1, f2, f3, f4, f5, f6, f7, f8, f9, f10, f11, f12, f13, f14, f15, f16, f17, f18, f19, f20, (fun _ => rfl), f22, f23, f24⟩
          refine StepsU.cond ?_ ?_
          · intro L U wr hF hlk haf A K hA hK
            have HA : Hid (A = putAll _ _ U) := hA
            clear hA
            simp [Aft, Region.binds] at haf
            obtain ⟨fb, fk, fs, oX, oM, oP, f0, f1, f2, f3, f4, f5, f6, f7, f8, f9, f10, f11, f12, f13, f14, f15, f16, f17, f18, f19, f20, f21, f22, f23, f24⟩ := hF
            have gg := f10 (by simp [haf])
            have ee := rd HA.out 61 (by kernel_rfl) gg
            refine ⟨?_⟩
            rw [if_pos (by simp [Region.wanted, yielded, ee])]
            refine Gate.out ?_
            clear gg ee
            have g16 := f16 (by simp [haf])
            have g21 := f21 (by simp [haf])
            have e67 := rd HA.out 67 (by kernel_rfl) g16
            have e72 := rd HA.out 72 (by kernel_rfl) g21
            refine ⟨?_⟩
            go_simp
            refine hK (upd U 73 (.bool true)) _ _ ?_ ?_
            · rw [HA.out]; kernel_rfl
            · exact ⟨fb, fk, fs, oX, oM, oP, f0, f1, f2, f3, f4, f5, f6, f7, f8, f9, f10, f11, f12, f13, f14, f15, f16, f17, f18, f19, f20, f21, (fun _ => rfl), f23, f24⟩
          refine StepsU.run rfl ?_ ?_
          · intro L U wr hF hlk haf A K hA hK
            have HA : Hid (A = putAll _ _ U) := hA
            clear hA
            simp [Aft, Region.binds] at haf
            obtain ⟨fb, fk, fs, oX, oM, oP, f0, f1, f2, f3, f4, f5, f6, f7, f8, f9, f10, f11, f12, f13, f14, f15, f16, f17, f18, f19, f20, f21, f22, f23, f24⟩ := hF
            have g10 := f10 (by simp [haf])
            have g22 := f22 (by simp [haf])
            have e61 := rd HA.out 61 (by kernel_rfl) g10
            have e73 := rd HA.out 73 (by kernel_rfl) g22
            refine ⟨?_⟩
            go_simp
            refine hK (upd U 74 (.bool true)) _ _ ?_ ?_
            · rw [HA.out]; kernel_rfl
            · exact ⟨fb, fk, fs, oX, oM, oP, f0, f1, f2, f3, f4, f5, f6, f7, f8, f9, f10, f11, f12, f13, f14, f15, f16, f17, f18, f19, f20, f21, f22, (fun _ => rfl), f24⟩
          refine StepsU.run rfl ?_ StepsU.nil
          · intro L U wr hF hlk haf A K hA hK
            have HA : Hid (A = putAll _ _ U) := hA
            clear hA
            simp [Aft, Region.binds] at haf
            obtain ⟨fb, fk, fs, oX, oM, oP, f0, f1, f2, f3, f4, f5, f6, f7, f8, f9, f10, f11, f12, f13, f14, f15, f16, f17, f18, f19, f20, f21, f22, f23, f24⟩ := hF
            have g23 := f23 (by simp [haf])
            have e74 := rd HA.out 74 (by kernel_rfl) rfl
            refine ⟨?_⟩
            go_simp
            refine hK (upd U 4 (U 74)) _ _ ?_ ?_
            · rw [HA.out]; kernel_rfl
            · exact ⟨fb, fk, fs, oX, oM, oP, f0, f1, f2, f3, f4, f5, f6, f7, f8, f9, f10, f11, f12, f13, f14, f15, f16, f17, f18, f19, f20, f21, f22, f23, (fun _ => g23)⟩
        intro L U7 V7 hall hF
        have hbw0 := hbw
        clear hbw
        obtain ⟨hbw, fk, fs, oX, oM, oP, f0, f1, f2, f3, f4, f5, f6, f7, f8, f9, f10, f11, f12, f13, f14, f15, f16, f17, f18, f19, f20, f21, f22, f23, f24⟩ := hF
        have g0 := f0 (hall 0 (by decide))
        have g1 := f1 (hall 1 (by decide))
        have g2 := f2 (hall 2 (by decide))
        have g3 := f3 (hall 3 (by decide))
        have g4 := f4 (hall 4 (by decide))
        have g5 := f5 (hall 5 (by decide))
        have g6 := f6 (hall 6 (by decide))
        have g7 := f7 (hall 7 (by decide))
        have g8 := f8 (hall 8 (by decide))
        have g9 := f9 (hall 9 (by decide))
        have g10 := f10 (hall 10 (by decide))
        have g11 := f11 (hall 11 (by decide))
        have g12 := f12 (hall 12 (by decide))
        have g13 := f13 (hall 13 (by decide))
        have g14 := f14 (hall 14 (by decide))
        have g15 := f15 (hall 15 (by decide))
        have g16 := f16 (hall 16 (by decide))
        have g17 := f17 (hall 17 (by decide))
        have g18 := f18 (hall 18 (by decide))
        have g19 := f19 (hall 19 (by decide))
        have g20 := f20 (hall 20 (by decide))
        have g21 := f21 (hall 21 (by decide))
        have g22 := f22 (hall 22 (by decide))
        have g23 := f23 (hall 23 (by decide))
        have g24 := f24 (hall 24 (by decide))
        clear hall f0 f1 f2 f3 f4 f5 f6 f7 f8 f9 f10 f11 f12 f13 f14 f15 f16 f17 f18 f19 f20 f21 f22 f23 f24
        replace hA := hA.keepI fk
        replace hC := hC.keepI fk
        replace hX := hX.keepI fk
        replace hM := hM.keepI fk
        replace hP := hP.keepI fk
        replace ltX := Nat.lt_of_lt_of_le ltX fs
        replace ltM := Nat.lt_of_lt_of_le ltM fs
        replace ltP := Nat.lt_of_lt_of_le ltP fs
        clear g0
        clear g1
        clear g2
        clear g3
        clear g4
        clear g5
        clear g6
        clear g7
        clear g8
        clear g9
        clear g10
        clear g11
        clear g12
        clear g13
        clear g14
        clear g15
        clear g16
        clear g17
        clear g18
        clear g19
        clear g20
        clear g21
        clear g22
        clear g23
        clear hbw0
        simp only [setM_some, setM_none, setM_nil]
        clear ltA oA
        clear ltC oC
        clear fk fs
        have eT : U7 4 = _ := g24
        try simp only []
        try go_at_K
        repeat (first | go_values | go_skip | go_guarded | go_step | go_upon)
        refine bodyPost_ret (v := (.bool true)) (by simp [results, Try.results7, go_sem, eT]) rfl ?_
        exact ⟨rfl, hbw⟩
      · have E3 : (cg != 0) = true := by rw [bne_iff_ne]; exact h3
        clear h3
        go_wp2
        refine wp_region_M (by kernel_rfl) [4, 51, 52, 53, 54, 55, 56, 57, 58, 59, 60, 61, 62, 63, 64, 65, 66, 67, 68, 69, 70, 71, 72, 73, 74] [none, none, none, none, some 4, none, none, none, none, none, none, none, none, none, none, none, none, none, none, none, none, none, none, none, none, none, none, none, none, none, none, none, none, none, none, none, none, none, none, none, none, none, none, none, none, none, none, none, none, none, none, some 51, some 52, some 53, some 54, some 55, some 56, some 57, some 58, some 59, some 60, some 61, some 62, some 63, some 64, some 65, some 66, some 67, some 68, some 69, some 70, some 71, some 72, some 73, some 74] (fun U => by kernel_rfl) (fun L U wr => Below w.heap.size w wr ∧ KeepI V6 wr ∧ V6.heap.size ≤ wr.heap.size ∧ Blk 27 wr (bX) #[.bool xX, .slice aX nX cX, .bool yX, .slice eX mX fX] ∧ Blk 25 wr (bM) #[.bool xM, .slice aM nM cM] ∧ Blk 25 wr (bP) #[.bool xP, .slice aP nP cP] ∧ (L 0 = true → IS (.int .i64 ca) (U 51) wr) ∧ (L 1 = true → IS (.bool false) (U 52) wr) ∧ (L 2 = true → IS (.bool false) (U 53) wr) ∧ (L 3 = true → IS (.int .i64 cf) (U 54) wr) ∧ (L 4 = true → IS (.bool false) (U 55) wr) ∧ (L 5 = true → IS (.bool false) (U 56) wr) ∧ (L 6 = true → IS (.bool false) (U 57) wr) ∧ (L 7 = true → IS (.int .i64 cg) (U 58) wr) ∧ (L 8 = true → IS (.bool true) (U 59) wr) ∧ (L 9 = true → IS (.bool true) (U 60) wr) ∧ (L 10 = true → IS (.bool true) (U 61) wr) ∧ (L 11 = true → IS undef (U 62) wr) ∧ (L 12 = true → IS undef (U 63) wr) ∧ (L 13 = true → IS undef (U 64) wr) ∧ (L 14 = true → IS undef (U 65) wr) ∧ (L 15 = true → IS undef (U 66) wr) ∧ (L 16 = true → IS undef (U 67) wr) ∧ (L 17 = true → IS undef (U 68) wr) ∧ (L 18 = true → IS undef (U 69) wr) ∧ (L 19 = true → IS undef (U 70) wr) ∧ (L 20 = true → IS undef (U 71) wr) ∧ (L 21 = true → IS undef (U 72) wr) ∧ (L 22 = true → IS undef (U 73) wr) ∧ (L 23 = true → IS (.bool true) (U 74) wr) ∧ (L 24 = true → IS (.bool true) (U 4) wr)) (by kernel_rfl) ?_ ?_ ?_
        · exact fun U => ⟨hbw.drew, KeepI.below (Below.refl _ _).drew, Nat.le_refl _, oX.drew, oM.drew, oP.drew, (fun h => by cases h), (fun h => by cases h), (fun h => by cases h), (fun h => by cases h), (fun h => by cases h), (fun h => by cases h), (fun h => by cases h), (fun h => by cases h), (fun h => by cases h), (fun h => by cases h), (fun h => by cases h), (fun h => by cases h), (fun h => by cases h), (fun h => by cases h), (fun h => by cases h), (fun h => by cases h), (fun h => by cases h), (fun h => by cases h), (fun h => by cases h), (fun h => by cases h), (fun h => by cases h), (fun h => by cases h), (fun h => by cases h), (fun h => by cases h), (fun h => by cases h)⟩
        · refine StepsU.run rfl ?_ ?_
          · intro L U wr hF hlk haf A K hA hK
            have HA : Hid (A = putAll _ _ U) := hA
            clear hA
            simp [Aft, Region.binds] at haf
            obtain ⟨fb, fk, fs, oX, oM, oP, f0, f1, f2, f3, f4, f5, f6, f7, f8, f9, f10, f11, f12, f13, f14, f15, f16, f17, f18, f19, f20, f21, f22, f23, f24⟩ := hF
            have e10 : A.tmps[10]? = some (.int .i64 ca) := by rw [HA.out]; kernel_rfl
            refine ⟨?_⟩
            go_simp
            refine hK (upd U 51 (.int .i64 ca)) _ _ ?_ ?_
            · rw [HA.out]; kernel_rfl
            · exact ⟨fb, fk, fs, oX, oM, oP, (fun _ => rfl), f1, f2, f3, f4, f5, f6, f7, f8, f9, f10, f11, f12, f13, f14, f15, f16, f17, f18, f19, f20, f21, f22, f23, f24⟩
          refine StepsU.run rfl ?_ ?_
          · intro L U wr hF hlk haf A K hA hK
            have HA : Hid (A = putAll _ _ U) := hA
            clear hA
            simp [Aft, Region.binds] at haf
            obtain ⟨fb, fk, fs, oX, oM, oP, f0, f1, f2, f3, f4, f5, f6, f7, f8, f9, f10, f11, f12, f13, f14, f15, f16, f17, f18, f19, f20, f21, f22, f23, f24⟩ := hF
            have g0 := f0 (by simp [haf])
            have e51 := rd HA.out 51 (by kernel_rfl) g0
            refine ⟨?_⟩
            go_simp
            refine hK (upd U 52 (.bool false)) _ _ ?_ ?_
            · rw [HA.out]; kernel_rfl
            · exact ⟨fb, fk, fs, oX, oM, oP, f0, (fun _ => rfl), f2, f3, f4, f5, f6, f7, f8, f9, f10, f11, f12, f13, f14, f15, f16, f17, f18, f19, f20, f21, f22, f23, f24⟩
          refine StepsU.run rfl ?_ ?_
          · intro L U wr hF hlk haf A K hA hK
            have HA : Hid (A = putAll _ _ U) := hA
            clear hA
            simp [Aft, Region.binds] at haf
            obtain ⟨fb, fk, fs, oX, oM, oP, f0, f1, f2, f3, f4, f5, f6, f7, f8, f9, f10, f11, f12, f13, f14, f15, f16, f17, f18, f19, f20, f21, f22, f23, f24⟩ := hF
            have g1 := f1 (by simp [haf])
            have e52 := rd HA.out 52 (by kernel_rfl) rfl
            refine ⟨?_⟩
            go_simp
            refine hK (upd U 53 (U 52)) _ _ ?_ ?_
            · rw [HA.out]; kernel_rfl
            · exact ⟨fb, fk, fs, oX, oM, oP, f0, f1, (fun _ => g1), f3, f4, f5, f6, f7, f8, f9, f10, f11, f12, f13, f14, f15, f16, f17, f18, f19, f20, f21, f22, f23, f24⟩
          refine StepsU.cond ?_ ?_
          · intro L U wr hF hlk haf A K hA hK
            have HA : Hid (A = putAll _ _ U) := hA
            clear hA
            simp [Aft, Region.binds] at haf
            obtain ⟨fb, fk, fs, oX, oM, oP, f0, f1, f2, f3, f4, f5, f6, f7, f8, f9, f10, f11, f12, f13, f14, f15, f16, f17, f18, f19, f20, f21, f22, f23, f24⟩ := hF
            have gg := f2 (by simp [haf])
            have ee := rd HA.out 53 (by kernel_rfl) gg
            refine ⟨?_⟩
            rw [if_pos (by simp [Region.wanted, yielded, ee])]
            refine Gate.out ?_
            clear gg ee
            have e12 : A.tmps[12]? = some (.int .i64 cf) := by rw [HA.out]; kernel_rfl
            refine ⟨?_⟩
            go_simp
            refine hK (upd U 54 (.int .i64 cf)) _ _ ?_ ?_
            · rw [HA.out]; kernel_rfl
            · exact ⟨fb, fk, fs, oX, oM, oP, f0, f1, f2, (fun _ => rfl), f4, f5, f6, f7, f8, f9, f10, f11, f12, f13, f14, f15, f16, f17, f18, f19, f20, f21, f22, f23, f24⟩
          refine StepsU.cond ?_ ?_
          · intro L U wr hF hlk haf A K hA hK
            have HA : Hid (A = putAll _ _ U) := hA
            clear hA
            simp [Aft, Region.binds] at haf
            obtain ⟨fb, fk, fs, oX, oM, oP, f0, f1, f2, f3, f4, f5, f6, f7, f8, f9, f10, f11, f12, f13, f14, f15, f16, f17, f18, f19, f20, f21, f22, f23, f24⟩ := hF
            have gg := f2 (by simp [haf])
            have ee := rd HA.out 53 (by kernel_rfl) gg
            refine ⟨?_⟩
            rw [if_pos (by simp [Region.wanted, yielded, ee])]
            refine Gate.out ?_
            clear gg ee
            have g3 := f3 (by simp [haf])
            have e54 := rd HA.out 54 (by kernel_rfl) g3
            refine ⟨?_⟩
            go_simp
            refine hK (upd U 55 (.bool false)) _ _ ?_ ?_
            · rw [HA.out]; kernel_rfl
            · exact ⟨fb, fk, fs, oX, oM, oP, f0, f1, f2, f3, (fun _ => rfl), f5, f6, f7, f8, f9, f10, f11, f12, f13, f14, f15, f16, f17, f18, f19, f20, f21, f22, f23, f24⟩
          refine StepsU.run rfl ?_ ?_
          · intro L U wr hF hlk haf A K hA hK
            have HA : Hid (A = putAll _ _ U) := hA
            clear hA
            simp [Aft, Region.binds] at haf
            obtain ⟨fb, fk, fs, oX, oM, oP, f0, f1, f2, f3, f4, f5, f6, f7, f8, f9, f10, f11, f12, f13, f14, f15, f16, f17, f18, f19, f20, f21, f22, f23, f24⟩ := hF
            have g2 := f2 (by simp [haf])
            have g4 := f4 (by simp [haf])
            have e53 := rd HA.out 53 (by kernel_rfl) g2
            have e55 := rd HA.out 55 (by kernel_rfl) g4
            refine ⟨?_⟩
            go_simp
            refine hK (upd U 56 (.bool false)) _ _ ?_ ?_
            · rw [HA.out]; kernel_rfl
            · exact ⟨fb, fk, fs, oX, oM, oP, f0, f1, f2, f3, f4, (fun _ => rfl), f6, f7, f8, f9, f10, f11, f12, f13, f14, f15, f16, f17, f18, f19, f20, f21, f22, f23, f24⟩
          refine StepsU.run rfl ?_ ?_
          · intro L U wr hF hlk haf A K hA hK
            have HA : Hid (A = putAll _ _ U) := hA
            clear hA
            simp [Aft, Region.binds] at haf
            obtain ⟨fb, fk, fs, oX, oM, oP, f0, f1, f2, f3, f4, f5, f6, f7, f8, f9, f10, f11, f12, f13, f14, f15, f16, f17, f18, f19, f20, f21, f22, f23, f24⟩ := hF
            have g5 := f5 (by simp [haf])
            have e56 := rd HA.out 56 (by kernel_rfl) rfl
            refine ⟨?_⟩
            go_simp
            refine hK (upd U 57 (U 56)) _ _ ?_ ?_
            · rw [HA.out]; kernel_rfl
            · exact ⟨fb, fk, fs, oX, oM, oP, f0, f1, f2, f3, f4, f5, (fun _ => g5), f7, f8, f9, f10, f11, f12, f13, f14, f15, f16, f17, f18, f19, f20, f21, f22, f23, f24⟩
          refine StepsU.cond ?_ ?_
          · intro L U wr hF hlk haf A K hA hK
            have HA : Hid (A = putAll _ _ U) := hA
            clear hA
            simp [Aft, Region.binds] at haf
            obtain ⟨fb, fk, fs, oX, oM, oP, f0, f1, f2, f3, f4, f5, f6, f7, f8, f9, f10, f11, f12, f13, f14, f15, f16, f17, f18, f19, f20, f21, f22, f23, f24⟩ := hF
            have gg := f6 (by simp [haf])
            have ee := rd HA.out 57 (by kernel_rfl) gg
            refine ⟨?_⟩
            rw [if_pos (by simp [Region.wanted, yielded, ee])]
            refine Gate.out ?_
            clear gg ee
            have e14 : A.tmps[14]? = some (.int .i64 cg) := by rw [HA.out]; kernel_rfl
            refine ⟨?_⟩
            go_simp
            refine hK (upd U 58 (.int .i64 cg)) _ _ ?_ ?_
            · rw [HA.out]; kernel_rfl
            · exact ⟨fb, fk, fs, oX, oM, oP, f0, f1, f2, f3, f4, f5, f6, (fun _ => rfl), f8, f9, f10, f11, f12, f13, f14, f15, f16, f17, f18, f19, f20, f21, f22, f23, f24⟩
          refine StepsU.cond ?_ ?_
          · intro L U wr hF hlk haf A K hA hK
            have HA : Hid (A = putAll _ _ U) := hA
            clear hA
            simp [Aft, Region.binds] at haf
            obtain ⟨fb, fk, fs, oX, oM, oP, f0, f1, f2, f3, f4, f5, f6, f7, f8, f9, f10, f11, f12, f13, f14, f15, f16, f17, f18, f19, f20, f21, f22, f23, f24⟩ := hF
            have gg := f6 (by simp [haf])
            have ee := rd HA.out 57 (by kernel_rfl) gg
            refine ⟨?_⟩
            rw [if_pos (by simp [Region.wanted, yielded, ee])]
            refine Gate.out ?_
            clear gg ee
            have g7 := f7 (by simp [haf])
            have e58 := rd HA.out 58 (by kernel_rfl) g7
            refine ⟨?_⟩
            go_simp
            refine hK (upd U 59 (.bool true)) _ _ ?_ ?_
            · rw [HA.out]; kernel_rfl
            · exact ⟨fb, fk, fs, oX, oM, oP, f0, f1, f2, f3, f4, f5, f6, f7, (fun _ => rfl), f9, f10, f11, f12, f13, f14, f15, f16, f17, f18, f19, f20, f21, f22, f23, f24⟩
          refine StepsU.run rfl ?_ ?_
          · intro L U wr hF hlk haf A K hA hK
            have HA : Hid (A = putAll _ _ U) := hA
            clear hA
            simp [Aft, Region.binds] at haf
            obtain ⟨fb, fk, fs, oX, oM, oP, f0, f1, f2, f3, f4, f5, f6, f7, f8, f9, f10, f11, f12, f13, f14, f15, f16, f17, f18, f19, f20, f21, f22, f23, f24⟩ := hF
            have g6 := f6 (by simp [haf])
            have g8 := f8 (by simp [haf])
            have e57 := rd HA.out 57 (by kernel_rfl) g6
            have e59 := rd HA.out 59 (by kernel_rfl) g8
            refine ⟨?_⟩
            go_simp
            refine hK (upd U 60 (.bool true)) _ _ ?_ ?_
            · rw [HA.out]; kernel_rfl
            · exact ⟨fb, fk, fs, oX, oM, oP, f0, f1, f2, f3, f4, f5, f6, f7, f8, (fun _ => rfl), f10, f11, f12, f13, f14, f15, f16, f17, f18, f19, f20, f21, f22, f23, f24⟩
          refine StepsU.run rfl ?_ ?_
          · intro L U wr hF hlk haf A K hA hK
            have HA : Hid (A = putAll _ _ U) := hA
            clear hA
            simp [Aft, Region.binds] at haf
            obtain ⟨fb, fk, fs, oX, oM, oP, f0, f1, f2, f3, f4, f5, f6, f7, f8, f9, f10, f11, f12, f13, f14, f15, f16, f17, f18, f19, f20, f21, f22, f23, f24⟩ := hF
            have g9 := f9 (by simp [haf])
            have e60 := rd HA.out 60 (by kernel_rfl) rfl
            refine ⟨?_⟩
            go_simp
            refine hK (upd U 61 (U 60)) _ _ ?_ ?_
            · rw [HA.out]; kernel_rfl
            · exact ⟨fb, fk, fs, oX, oM, oP, f0, f1, f2, f3, f4, f5, f6, f7, f8, f9, (fun _ => g9), f11, f12, f13, f14, f15, f16, f17, f18, f19, f20, f21, f22, f23, f24⟩
          refine StepsU.cond ?_ ?_
          · intro L U wr hF hlk haf A K hA hK
            have HA : Hid (A = putAll _ _ U) := hA
            clear hA
            simp [Aft, Region.binds] at haf
            obtain ⟨fb, fk, fs, oX, oM, oP, f0, f1, f2, f3, f4, f5, f6, f7, f8, f9, f10, f11, f12, f13, f14, f15, f16, f17, f18, f19, f20, f21, f22, f23, f24⟩ := hF
            have gg := f10 (by simp [haf])
            have ee := rd HA.out 61 (by kernel_rfl) gg
            refine ⟨?_⟩
            rw [if_neg (by simp [Region.wanted, yielded, ee])]
            refine hK (upd U 62 undef) _ _ ?_ ?_
            · rw [HA.out]; kernel_rfl
            · exact ⟨fb, fk, fs, oX, oM, oP, f0, f1, f2, f3, f4, f5, f6, f7, f8, f9, f10, (fun _ => rfl), f12, f13, f14, f15, f16, f17, f18, f19, f20, f21, f22, f23, f24⟩
          refine StepsU.cond ?_ ?_
          · intro L U wr hF hlk haf A K hA hK
            have HA : Hid (A = putAll _ _ U) := hA
            clear hA
            simp [Aft, Region.binds] at haf
            obtain ⟨fb, fk, fs, oX, oM, oP, f0, f1, f2, f3, f4, f5, f6, f7, f8, f9, f10, f11, f12, f13, f14, f15, f16, f17, f18, f19, f20, f21, f22, f23, f24⟩ := hF
            have gg := f10 (by simp [haf])
            have ee := rd HA.out 61 (by kernel_rfl) gg
            refine ⟨?_⟩
            rw [if_neg (by simp [Region.wanted, yielded, ee])]
            refine hK (upd U 63 undef) _ _ ?_ ?_
            · rw [HA.out]; kernel_rfl
            · exact ⟨fb, fk, fs, oX, oM, oP, f0, f1, f2, f3, f4, f5, f6, f7, f8, f9, f10, f11, (fun _ => rfl), f13, f14, f15, f16, f17, f18, f19, f20, f21, f22, f23, f24⟩
          refine StepsU.cond ?_ ?_
          · intro L U wr hF hlk haf A K hA hK
            have HA : Hid (A = putAll _ _ U) := hA
            clear hA
            simp [Aft, Region.binds] at haf
            obtain ⟨fb, fk, fs, oX, oM, oP, f0, f1, f2, f3, f4, f5, f6, f7, f8, f9, f10, f11, f12, f13, f14, f15, f16, f17, f18, f19, f20, f21, f22, f23, f24⟩ := hF
            have gg := f10 (by simp [haf])
            have ee := rd HA.out 61 (by kernel_rfl) gg
            refine ⟨?_⟩
            rw [if_neg (by simp [Region.wanted, yielded, ee])]
            refine hK (upd U 64 undef) _ _ ?_ ?_
            · rw [HA.out]; kernel_rfl
            · exact ⟨fb, fk, fs, oX, oM, oP, f0, f1, f2, f3, f4, f5, f6, f7, f8, f9, f10, f11, f12, (fun _ => rfl), f14, f15, f16, f17, f18, f19, f20, f21, f22, f23, f24⟩
          refine StepsU.cond ?_ ?_
          · intro L U wr hF hlk haf A K hA hK
            have HA : Hid (A = putAll _ _ U) := hA
            clear hA
            simp [Aft, Region.binds] at haf
            obtain ⟨fb, fk, fs, oX, oM, oP, f0, f1, f2, f3, f4, f5, f6, f7, f8, f9, f10, f11, f12, f13, f14, f15, f16, f17, f18, f19, f20, f21, f22, f23, f24⟩ := hF
            have gg := f10 (by simp [haf])
            have ee := rd HA.out 61 (by kernel_rfl) gg
            refine ⟨?_⟩
            rw [if_neg (by simp [Region.wanted, yielded, ee])]
            refine hK (upd U 65 undef) _ _ ?_ ?_
            · rw [HA.out]; kernel_rfl
            · exact ⟨fb, fk, fs, oX, oM, oP, f0, f1, f2, f3, f4, f5, f6, f7, f8, f9, f10, f11, f12, f13, (fun _ => rfl), f15, f16, f17, f18, f19, f20, f21, f22, f23, f24⟩
          refine StepsU.cond ?_ ?_
          · intro L U wr hF hlk haf A K hA hK
            have HA : Hid (A = putAll _ _ U) := hA
            clear hA
            simp [Aft, Region.binds] at haf
            obtain ⟨fb, fk, fs, oX, oM, oP, f0, f1, f2, f3, f4, f5, f6, f7, f8, f9, f10, f11, f12, f13, f14, f15, f16, f17, f18, f19, f20, f21, f22, f23, f24⟩ := hF
            have gg := f10 (by simp [haf])
            have ee := rd HA.out 61 (by kernel_rfl) gg
            refine ⟨?_⟩
            rw [if_neg (by simp [Region.wanted, yielded, ee])]
            refine hK (upd U 66 undef) _ _ ?_ ?_
            · rw [HA.out]; kernel_rfl
            · exact ⟨fb, fk, fs, oX, oM, oP, f0, f1, f2, f3, f4, f5, f6, f7, f8, f9, f10, f11, f12, f13, f14, (fun _ => rfl), f16, f17, f18, f19, f20, f21, f22, f23, f24⟩
          refine StepsU.cond ?_ ?_
          · intro L U wr hF hlk haf A K hA hK
            have HA : Hid (A = putAll _ _ U) := hA
            clear hA
            simp [Aft, Region.binds] at haf
            obtain ⟨fb, fk, fs, oX, oM, oP, f0, f1, f2, f3, f4, f5, f6, f7, f8, f9, f10, f11, f12, f13, f14, f15, f16, f17, f18, f19, f20, f21, f22, f23, f24⟩ := hF
            have gg := f10 (by simp [haf])
            have ee := rd HA.out 61 (by kernel_rfl) gg
            refine ⟨?_⟩
            rw [if_neg (by simp [Region.wanted, yielded, ee])]
            refine hK (upd U 67 undef) _ _ ?_ ?_
            · rw [HA.out]; kernel_rfl
            · exact ⟨fb, fk, fs, oX, oM, oP, f0, f1, f2, f3, f4, f5, f6, f7, f8, f9, f10, f11, f12, f13, f14, f15, (fun _ => rfl), f17, f18, f19, f20, f21, f22, f23, f24⟩
          refine StepsU.cond ?_ ?_
          · intro L U wr hF hlk haf A K hA hK
            have HA : Hid (A = putAll _ _ U) := hA
            clear hA
            simp [Aft, Region.binds] at haf
            obtain ⟨fb, fk, fs, oX, oM, oP, f0, f1, f2, f3, f4, f5, f6, f7, f8, f9, f10, f11, f12, f13, f14, f15, f16, f17, f18, f19, f20, f21, f22, f23, f24⟩ := hF
            have gg := f16 (by simp [haf])
            have ee := rd HA.out 67 (by kernel_rfl) gg
            refine ⟨?_⟩
            rw [if_neg (by simp [Region.wanted, yielded, ee, undef])]
            refine hK (upd U 68 undef) _ _ ?_ ?_
            · rw [HA.out]; kernel_rfl
            · exact ⟨fb, fk, fs, oX, oM, oP, f0, f1, f2, f3, f4, f5, f6, f7, f8, f9, f10, f11, f12, f13, f14, f15, f16, (fun _ => rfl), f18, f19, f20, f21, f22, f23, f24⟩
          refine StepsU.cond ?_ ?_
          · intro L U wr hF hlk haf A K hA hK
            have HA : Hid (A = putAll _ _ U) := hA
            clear hA
            simp [Aft, Region.binds] at haf
            obtain ⟨fb, fk, fs, oX, oM, oP, f0, f1, f2, f3, f4, f5, f6, f7, f8, f9, f10, f11, f12, f13, f14, f15, f16, f17, f18, f19, f20, f21, f22, f23, f24⟩ := hF
            have gg := f16 (by simp [haf])
            have ee := rd HA.out 67 (by kernel_rfl) gg
            refine ⟨?_⟩
            rw [if_neg (by simp [Region.wanted, yielded, ee, undef])]
            refine hK (upd U 69 undef) _ _ ?_ ?_
            · rw [HA.out]; kernel_rfl
            · exact ⟨fb, fk, fs, oX, oM, oP, f0, f1, f2, f3, f4, f5, f6, f7, f8, f9, f10, f11, f12, f13, f14, f15, f16, f17, (fun _ => rfl), f19, f20, f21, f22, f23, f24⟩
          refine StepsU.cond ?_ ?_
          · intro L U wr hF hlk haf A K hA hK
            have HA : Hid (A = putAll _ _ U) := hA
            clear hA
            simp [Aft, Region.binds] at haf
            obtain ⟨fb, fk, fs, oX, oM, oP, f0, f1, f2, f3, f4, f5, f6, f7, f8, f9, f10, f11, f12, f13, f14, f15, f16, f17, f18, f19, f20, f21, f22, f23, f24⟩ := hF
            have gg := f16 (by simp [haf])
            have ee := rd HA.out 67 (by kernel_rfl) gg
            refine ⟨?_⟩
            rw [if_neg (by simp [Region.wanted, yielded, ee, undef])]
            refine hK (upd U 70 undef) _ _ ?_ ?_
            · rw [HA.out]; kernel_rfl
            · exact ⟨fb, fk, fs, oX, oM, oP, f0, f1, f2, f3, f4, f5, f6, f7, f8, f9, f10, f11, f12, f13, f14, f15, f16, f17, f18, (fun _ => rfl), f20, f21, f22, f23, f24⟩
          refine StepsU.cond ?_ ?_
          · intro L U wr hF hlk haf A K hA hK
            have HA : Hid (A = putAll _ _ U) := hA
            clear hA
            simp [Aft, Region.binds] at haf
            obtain ⟨fb, fk, fs, oX, oM, oP, f0, f1, f2, f3, f4, f5, f6, f7, f8, f9, f10, f11, f12, f13, f14, f15, f16, f17, f18, f19, f20, f21, f22, f23, f24⟩ := hF
            have gg := f16 (by simp [haf])
            have ee := rd HA.out 67 (by kernel_rfl) gg
            refine ⟨?_⟩
            rw [if_neg (by simp [Region.wanted, yielded, ee, undef])]
            refine hK (upd U 71 undef) _ _ ?_ ?_
            · rw [HA.out]; kernel_rfl
            · exact ⟨fb, fk, fs, oX, oM, oP, f0, f1, f2, f3, f4, f5, f6, f7, f8, f9, f10, f11, f12, f13, f14, f15, f16, f17, f18, f19, (fun _ => rfl), f21, f22, f23, f24⟩
          refine StepsU.cond ?_ ?_
          · intro L U wr hF hlk haf A K hA hK
            have HA : Hid (A = putAll _ _ U) := hA
            clear hA
            simp [Aft, Region.binds] at haf
            obtain ⟨fb, fk, fs, oX, oM, oP, f0, f1, f2, f3, f4, f5, f6, f7, f8, f9, f10, f11, f12, f13, f14, f15, f16, f17, f18, f19, f20, f21, f22, f23, f24⟩ := hF
            have gg := f16 (by simp [haf])
            have ee := rd HA.out 67 (by kernel_rfl) gg
            refine ⟨?_⟩
            rw [if_neg (by simp [Region.wanted, yielded, ee, undef])]
            refine hK (upd U 72 undef) _ _ ?_ ?_
            · rw [HA.out]; kernel_rfl
            · exact ⟨fb, fk, fs, oX, oM, oP, f0, f1, f2, f3, f4, f5, f6, f7, f8, f9, f10, f11, f12, f13, f14, f15, f16, f17, f18, f19, f20, (fun _ => rfl), f22, f23, f24⟩
          refine StepsU.cond ?_ ?_
          · intro L U wr hF hlk haf A K hA hK
            have HA : Hid (A = putAll _ _ U) := hA
            clear hA
            simp [Aft, Region.binds] at haf
            obtain ⟨fb, fk, fs, oX, oM, oP, f0, f1, f2, f3, f4, f5, f6, f7, f8, f9, f10, f11, f12, f13, f14, f15, f16, f17, f18, f19, f20, f21, f22, f23, f24⟩ := hF
            have gg := f10 (by simp [haf])
            have ee := rd HA.out 61 (by kernel_rfl) gg
            refine ⟨?_⟩
            rw [if_neg (by simp [Region.wanted, yielded, ee])]
            refine hK (upd U 73 undef) _ _ ?_ ?_
            · rw [HA.out]; kernel_rfl
            · exact ⟨fb, fk, fs, oX, oM, oP, f0, f1, f2, f3, f4, f5, f6, f7, f8, f9, f10, f11, f12, f13, f14, f15, f16, f17, f18, f19, f20, f21, (fun _ => rfl), f23, f24⟩
          refine StepsU.run rfl ?_ ?_
          · intro L U wr hF hlk haf A K hA hK
            have HA : Hid (A = putAll _ _ U) := hA
            clear hA
            simp [Aft, Region.binds] at haf
            obtain ⟨fb, fk, fs, oX, oM, oP, f0, f1, f2, f3, f4, f5, f6, f7, f8, f9, f10, f11, f12, f13, f14, f15, f16, f17, f18, f19, f20, f21, f22, f23, f24⟩ := hF
            have g10 := f10 (by simp [haf])
            have g22 := f22 (by simp [haf])
            have e61 := rd HA.out 61 (by kernel_rfl) g10
            have e73 := rd HA.out 73 (by kernel_rfl) g22
            refine ⟨?_⟩
            go_simp
            refine hK (upd U 74 (.bool true)) _ _ ?_ ?_
            · rw [HA.out]; kernel_rfl
            · exact ⟨fb, fk, fs, oX, oM, oP, f0, f1, f2, f3, f4, f5, f6, f7, f8, f9, f10, f11, f12, f13, f14, f15, f16, f17, f18, f19, f20, f21, f22, (fun _ => rfl), f24⟩
          refine StepsU.run rfl ?_ StepsU.nil
          · intro L U wr hF hlk haf A K hA hK
            have HA : Hid (A = putAll _ _ U) := hA
            clear hA
            simp [Aft, Region.binds] at haf
            obtain ⟨fb, fk, fs, oX, oM, oP, f0, f1, f2, f3, f4, f5, f6, f7, f8, f9, f10, f11, f12, f13, f14, f15, f16, f17, f18, f19, f20, f21, f22, f23, f24⟩ := hF
            have g23 := f23 (by simp [haf])
            have e74 := rd HA.out 74 (by kernel_rfl) rfl
            refine ⟨?_⟩
            go_simp
            refine hK (upd U 4 (U 74)) _ _ ?_ ?_
            · rw [HA.out]; kernel_rfl
            · exact ⟨fb, fk, fs, oX, oM, oP, f0, f1, f2, f3, f4, f5, f6, f7, f8, f9, f10, f11, f12, f13, f14, f15, f16, f17, f18, f19, f20, f21, f22, f23, (fun _ => g23)⟩
        intro L U7 V7 hall hF
        have hbw0 := hbw
        clear hbw
        obtain ⟨hbw, fk, fs, oX, oM, oP, f0, f1, f2, f3, f4, f5, f6, f7, f8, f9, f10, f11, f12, f13, f14, f15, f16, f17, f18, f19, f20, f21, f22, f23, f24⟩ := hF
        have g0 := f0 (hall 0 (by decide))
        have g1 := f1 (hall 1 (by decide))
        have g2 := f2 (hall 2 (by decide))
        have g3 := f3 (hall 3 (by decide))
        have g4 := f4 (hall 4 (by decide))
        have g5 := f5 (hall 5 (by decide))
        have g6 := f6 (hall 6 (by decide))
        have g7 := f7 (hall 7 (by decide))
        have g8 := f8 (hall 8 (by decide))
        have g9 := f9 (hall 9 (by decide))
        have g10 := f10 (hall 10 (by decide))
        have g11 := f11 (hall 11 (by decide))
        have g12 := f12 (hall 12 (by decide))
        have g13 := f13 (hall 13 (by decide))
        have g14 := f14 (hall 14 (by decide))
        have g15 := f15 (hall 15 (by decide))
        have g16 := f16 (hall 16 (by decide))
        have g17 := f17 (hall 17 (by decide))
        have g18 := f18 (hall 18 (by decide))
        have g19 := f19 (hall 19 (by decide))
        have g20 := f20 (hall 20 (by decide))
        have g21 := f21 (hall 21 (by decide))
        have g22 := f22 (hall 22 (by decide))
        have g23 := f23 (hall 23 (by decide))
        have g24 := f24 (hall 24 (by decide))
        clear hall f0 f1 f2 f3 f4 f5 f6 f7 f8 f9 f10 f11 f12 f13 f14 f15 f16 f17 f18 f19 f20 f21 f22 f23 f24
        replace hA := hA.keepI fk
        replace hC := hC.keepI fk
        replace hX := hX.keepI fk
        replace hM := hM.keepI fk
        replace hP := hP.keepI fk
        replace ltX := Nat.lt_of_lt_of_le ltX fs
        replace ltM := Nat.lt_of_lt_of_le ltM fs
        replace ltP := Nat.lt_of_lt_of_le ltP fs
        clear g0
        clear g1
        clear g2
        clear g3
        clear g4
        clear g5
        clear g6
        clear g7
        clear g8
        clear g9
        clear g10
        clear g11
        clear g12
        clear g13
        clear g14
        clear g15
        clear g16
        clear g17
        clear g18
        clear g19
        clear g20
        clear g21
        clear g22
        clear g23
        clear hbw0
        simp only [setM_some, setM_none, setM_nil]
        clear ltA oA
        clear ltC oC
        clear fk fs
        have eT : U7 4 = _ := g24
        try simp only []
        try go_at_K
        repeat (first | go_values | go_skip | go_guarded | go_step | go_upon)
        refine bodyPost_ret (v := (.bool true)) (by simp [results, Try.results7, go_sem, eT]) rfl ?_
        exact ⟨rfl, hbw⟩
    · have E2 : (cf != 0) = true := by rw [bne_iff_ne]; exact h2
      clear h2
      go_wp2
      refine wp_region_M (by kernel_rfl) [4, 51, 52, 53, 54, 55, 56, 57, 58, 59, 60, 61, 62, 63, 64, 65, 66, 67, 68, 69, 70, 71, 72, 73, 74] [none, none, none, none, some 4, none, none, none, none, none, none, none, none, none, none, none, none, none, none, none, none, none, none, none, none, none, none, none, none, none, none, none, none, none, none, none, none, none, none, none, none, none, none, none, none, none, none, none, none, none, none, some 51, some 52, some 53, some 54, some 55, some 56, some 57, some 58, some 59, some 60, some 61, some 62, some 63, some 64, some 65, some 66, some 67, some 68, some 69, some 70, some 71, some 72, some 73, some 74] (fun U => by kernel_rfl) (fun L U wr => Below w.heap.size w wr ∧ KeepI V6 wr ∧ V6.heap.size ≤ wr.heap.size ∧ Blk 27 wr (bX) #[.bool xX, .slice aX nX cX, .bool yX, .slice eX mX fX] ∧ Blk 25 wr (bM) #[.bool xM, .slice aM nM cM] ∧ Blk 25 wr (bP) #[.bool xP, .slice aP nP cP] ∧ (L 0 = true → IS (.int .i64 ca) (U 51) wr) ∧ (L 1 = true → IS (.bool false) (U 52) wr) ∧ (L 2 = true → IS (.bool false) (U 53) wr) ∧ (L 3 = true → IS (.int .i64 cf) (U 54) wr) ∧ (L 4 = true → IS (.bool true) (U 55) wr) ∧ (L 5 = true → IS (.bool true) (U 56) wr) ∧ (L 6 = true → IS (.bool true) (U 57) wr) ∧ (L 7 = true → IS undef (U 58) wr) ∧ (L 8 = true → IS undef (U 59) wr) ∧ (L 9 = true → IS (.bool true) (U 60) wr) ∧ (L 10 = true → IS (.bool true) (U 61) wr) ∧ (L 11 = true → IS undef (U 62) wr) ∧ (L 12 = true → IS undef (U 63) wr) ∧ (L 13 = true → IS undef (U 64) wr) ∧ (L 14 = true → IS undef (U 65) wr) ∧ (L 15 = true → IS undef (U 66) wr) ∧ (L 16 = true → IS undef (U 67) wr) ∧ (L 17 = true → IS undef (U 68) wr) ∧ (L 18 = true → IS undef (U 69) wr) ∧ (L 19 = true → IS undef (U 70) wr) ∧ (L 20 = true → IS undef (U 71) wr) ∧ (L 21 = true → IS undef (U 72) wr) ∧ (L 22 = true → IS undef (U 73) wr) ∧ (L 23 = true → IS (.bool true) (U 74) wr) ∧ (L 24 = true → IS (.bool true) (U 4) wr)) (by kernel_rfl) ?_ ?_ ?_
      · exact fun U => ⟨hbw.drew, KeepI.below (Below.refl _ _).drew, Nat.le_refl _, oX.drew, oM.drew, oP.drew, (fun h => by cases h), (fun h => by cases h), (fun h => by cases h), (fun h => by cases h), (fun h => by cases h), (fun h => by cases h), (fun h => by cases h), (fun h => by cases h), (fun h => by cases h), (fun h => by cases h), (fun h => by cases h), (fun h => by cases h), (fun h => by cases h), (fun h => by cases h), (fun h => by cases h), (fun h => by cases h), (fun h => by cases h), (fun h => by cases h), (fun h => by cases h), (fun h => by cases h), (fun h => by cases h), (fun h => by cases h), (fun h => by cases h), (fun h => by cases h), (fun h => by cases h)⟩
      · refine StepsU.run rfl ?_ ?_
        · intro L U wr hF hlk haf A K hA hK
          have HA : Hid (A = putAll _ _ U) := hA
          clear hA
          simp [Aft, Region.binds] at haf
          obtain ⟨fb, fk, fs, oX, oM, oP, f0, f1, f2, f3, f4, f5, f6, f7, f8, f9, f10, f11, f12, f13, f14, f15, f16, f17, f18, f19, f20, f21, f22, f23, f24⟩ := hF
          have e10 : A.tmps[10]? = some (.int .i64 ca) := by rw [HA.out]; kernel_rfl
          refine ⟨?_⟩
          go_simp
          refine hK (upd U 51 (.int .i64 ca)) _ _ ?_ ?_
          · rw [HA.out]; kernel_rfl
          · exact ⟨fb, fk, fs, oX, oM, oP, (fun _ => rfl), f1, f2, f3, f4, f5, f6, f7, f8, f9, f10, f11, f12, f13, f14, f15, f16, f17, f18, f19, f20, f21, f22, f23, f24⟩
        refine StepsU.run rfl ?_ ?_
        · intro L U wr hF hlk haf A K hA hK
          have HA : Hid (A = putAll _ _ U) := hA
          clear hA
          simp [Aft, Region.binds] at haf
          obtain ⟨fb, fk, fs, oX, oM, oP, f0, f1, f2, f3, f4, f5, f6, f7, f8, f9, f10, f11, f12, f13, f14, f15, f16, f17, f18, f19, f20, f21, f22, f23, f24⟩ := hF
          have g0 := f0 (by simp [haf])
          have e51 := rd HA.out 51 (by kernel_rfl) g0
          refine ⟨?_⟩
          go_simp
          refine hK (upd U 52 (.bool false)) _ _ ?_ ?_
          · rw [HA.out]; kernel_rfl
          · exact ⟨fb, fk, fs, oX, oM, oP, f0, (fun _ => rfl), f2, f3, f4, f5, f6, f7, f8, f9, f10, f11, f12, f13, f14, f15, f16, f17, f18, f19, f20, f21, f22, f23, f24⟩
        refine StepsU.run rfl ?_ ?_
        · intro L U wr hF hlk haf A K hA hK
          have HA : Hid (A = putAll _ _ U) := hA
          clear hA
          simp [Aft, Region.binds] at haf
          obtain ⟨fb, fk, fs, oX, oM, oP, f0, f1, f2, f3, f4, f5, f6, f7, f8, f9, f10, f11, f12, f13, f14, f15, f16, f17, f18, f19, f20, f21, f22, f23, f24⟩ := hF
          have g1 := f1 (by simp [haf])
          have e52 := rd HA.out 52 (by kernel_rfl) rfl
          refine ⟨?_⟩
          go_simp
          refine hK (upd U 53 (U 52)) _ _ ?_ ?_
          · rw [HA.out]; kernel_rfl
          · exact ⟨fb, fk, fs, oX, oM, oP, f0, f1, (fun _ => g1), f3, f4, f5, f6, f7, f8, f9, f10, f11, f12, f13, f14, f15, f16, f17, f18, f19, f20, f21, f22, f23, f24⟩
        refine StepsU.cond ?_ ?_
        · intro L U wr hF hlk haf A K hA hK
          have HA : Hid (A = putAll _ _ U) := hA
          clear hA
          simp [Aft, Region.binds] at haf
          obtain ⟨fb, fk, fs, oX, oM, oP, f0, f1, f2, f3, f4, f5, f6, f7, f8, f9, f10, f11, f12, f13, f14, f15, f16, f17, f18, f19, f20, f21, f22, f23, f24⟩ := hF
          have gg := f2 (by simp [haf])
          have ee := rd HA.out 53 (by kernel_rfl) gg
          refine ⟨?_⟩
          rw [if_pos (by simp [Region.wanted, yielded, ee])]
          refine Gate.out ?_
          clear gg ee
          have e12 : A.tmps[12]? = some (.int .i64 cf) := by rw [HA.out]; kernel_rfl
          refine ⟨?_⟩
          go_simp
          refine hK (upd U 54 (.int .i64 cf)) _ _ ?_ ?_
          · rw [HA.out]; kernel_rfl
          · exact ⟨fb, fk, fs, oX, oM, oP, f0, f1, f2, (fun _ => rfl), f4, f5, f6, f7, f8, f9, f10, f11, f12, f13, f14, f15, f16, f17, f18, f19, f20, f21, f22, f23, f24⟩
        refine StepsU.cond ?_ ?_
        · intro L U wr hF hlk haf A K hA hK
          have HA : Hid (A = putAll _ _ U) := hA
          clear hA
          simp [Aft, Region.binds] at haf
          obtain ⟨fb, fk, fs, oX, oM, oP, f0, f1, f2, f3, f4, f5, f6, f7, f8, f9, f10, f11, f12, f13, f14, f15, f16, f17, f18, f19, f20, f21, f22, f23, f24⟩ := hF
          have gg := f2 (by simp [haf])
          have ee := rd HA.out 53 (by kernel_rfl) gg
          refine ⟨?_⟩
          rw [if_pos (by simp [Region.wanted, yielded, ee])]
          refine Gate.out ?_
          clear gg ee
          have g3 := f3 (by simp [haf])
          have e54 := rd HA.out 54 (by kernel_rfl) g3
          refine ⟨?_⟩
          go_simp
          refine hK (upd U 55 (.bool true)) _ _ ?_ ?_
          · rw [HA.out]; kernel_rfl
          · exact ⟨fb, fk, fs, oX, oM, oP, f0, f1, f2, f3, (fun _ => rfl), f5, f6, f7, f8, f9, f10, f11, f12, f13, f14, f15, f16, f17, f18, f19, f20, f21, f22, f23, f24⟩
        refine StepsU.run rfl ?_ ?_
        · intro L U wr hF hlk haf A K hA hK
          have HA : Hid (A = putAll _ _ U) := hA
          clear hA
          simp [Aft, Region.binds] at haf
          obtain ⟨fb, fk, fs, oX, oM, oP, f0, f1, f2, f3, f4, f5, f6, f7, f8, f9, f10, f11, f12, f13, f14, f15, f16, f17, f18, f19, f20, f21, f22, f23, f24⟩ := hF
          have g2 := f2 (by simp [haf])
          have g4 := f4 (by simp [haf])
          have e53 := rd HA.out 53 (by kernel_rfl) g2
          have e55 := rd HA.out 55 (by kernel_rfl) g4
          refine ⟨?_⟩
          go_simp
          refine hK (upd U 56 (.bool true)) _ _ ?_ ?_
          · rw [HA.out]; kernel_rfl
          · exact ⟨fb, fk, fs, oX, oM, oP, f0, f1, f2, f3, f4, (fun _ => rfl), f6, f7, f8, f9, f10, f11, f12, f13, f14, f15, f16, f17, f18, f19, f20, f21, f22, f23, f24⟩
        refine StepsU.run rfl ?_ ?_
        · intro L U wr hF hlk haf A K hA hK
          have HA : Hid (A = putAll _ _ U) := hA
          clear hA
          simp [Aft, Region.binds] at haf
          obtain ⟨fb, fk, fs, oX, oM, oP, f0, f1, f2, f3, f4, f5, f6, f7, f8, f9, f10, f11, f12, f13, f14, f15, f16, f17, f18, f19, f20, f21, f22, f23, f24⟩ := hF
          have g5 := f5 (by simp [haf])
          have e56 := rd HA.out 56 (by kernel_rfl) rfl
          refine ⟨?_⟩
          go_simp
          refine hK (upd U 57 (U 56)) _ _ ?_ ?_
          · rw [HA.out]; kernel_rfl
          · exact ⟨fb, fk, fs, oX, oM, oP, f0, f1, f2, f3, f4, f5, (fun _ => g5), f7, f8, f9, f10, f11, f12, f13, f14, f15, f16, f17, f18, f19, f20, f21, f22, f23, f24⟩
        refine StepsU.cond ?_ ?_
        · intro L U wr hF hlk haf A K hA hK
          have HA : Hid (A = putAll _ _ U) := hA
          clear hA
          simp [Aft, Region.binds] at haf
          obtain ⟨fb, fk, fs, oX, oM, oP, f0, f1, f2, f3, f4, f5, f6, f7, f8, f9, f10, f11, f12, f13, f14, f15, f16, f17, f18, f19, f20, f21, f22, f23, f24⟩ := hF
          have gg := f6 (by simp [haf])
          have ee := rd HA.out 57 (by kernel_rfl) gg
          refine ⟨?_⟩
          rw [if_neg (by simp [Region.wanted, yielded, ee])]
          refine hK (upd U 58 undef) _ _ ?_ ?_
          · rw [HA.out]; kernel_rfl
          · exact ⟨fb, fk, fs, oX, oM, oP, f0, f1, f2, f3, f4, f5, f6, (fun _ => rfl), f8, f9, f10, f11, f12, f13, f14, f15, f16, f17, f18, f19, f20, f21, f22, f23, f24⟩
        refine StepsU.cond ?_ ?_
        · intro L U wr hF hlk haf A K hA hK
          have HA : Hid (A = putAll _ _ U) := hA
          clear hA
          simp [Aft, Region.binds] at haf
          obtain ⟨fb, fk, fs, oX, oM, oP, f0, f1, f2, f3, f4, f5, f6, f7, f8, f9, f10, f11, f12, f13, f14, f15, f16, f17, f18, f19, f20, f21, f22, f23, f24⟩ := hF
          have gg := f6 (by simp [haf])
          have ee := rd HA.out 57 (by kernel_rfl) gg
          refine ⟨?_⟩
          rw [if_neg (by simp [Region.wanted, yielded, ee])]
          refine hK (upd U 59 undef) _ _ ?_ ?_
          · rw [HA.out]; kernel_rfl
          · exact ⟨fb, fk, fs, oX, oM, oP, f0, f1, f2, f3, f4, f5, f6, f7, (fun _ => rfl), f9, f10, f11, f12, f13, f14, f15, f16, f17, f18, f19, f20, f21, f22, f23, f24⟩
        refine StepsU.run rfl ?_ ?_
        · intro L U wr hF hlk haf A K hA hK
          have HA : Hid (A = putAll _ _ U) := hA
          clear hA
          simp [Aft, Region.binds] at haf
          obtain ⟨fb, fk, fs, oX, oM, oP, f0, f1, f2, f3, f4, f5, f6, f7, f8, f9, f10, f11, f12, f13, f14, f15, f16, f17, f18, f19, f20, f21, f22, f23, f24⟩ := hF
          have g6 := f6 (by simp [haf])
          have g8 := f8 (by simp [haf])
          have e57 := rd HA.out 57 (by kernel_rfl) g6
          have e59 := rd HA.out 59 (by kernel_rfl) g8
          refine ⟨?_⟩
          go_simp
          refine hK (upd U 60 (.bool true)) _ _ ?_ ?_
          · rw [HA.out]; kernel_rfl
          · exact ⟨fb, fk, fs, oX, oM, oP, f0, f1, f2, f3, f4, f5, f6, f7, f8, (fun _ => rfl), f10, f11, f12, f13, f14, f15, f16, f17, f18, f19, f20, f21, f22, f23, f24⟩
        refine StepsU.run rfl ?_ ?_
        · intro L U wr hF hlk haf A K hA hK
          have HA : Hid (A = putAll _ _ U) := hA
          clear hA
          simp [Aft, Region.binds] at haf
          obtain ⟨fb, fk, fs, oX, oM, oP, f0, f1, f2, f3, f4, f5, f6, f7, f8, f9, f10, f11, f12, f13, f14, f15, f16, f17, f18, f19, f20, f21, f22, f23, f24⟩ := hF
          have g9 := f9 (by simp [haf])
          have e60 := rd HA.out 60 (by kernel_rfl) rfl
          refine ⟨?_⟩
          go_simp
          refine hK (upd U 61 (U 60)) _ _ ?_ ?_
          · rw [HA.out]; kernel_rfl
          · exact ⟨fb, fk, fs, oX, oM, oP, f0, f1, f2, f3, f4, f5, f6, f7, f8, f9, (fun _ => g9), f11, f12, f13, f14, f15, f16, f17, f18, f19, f20, f21, f22, f23, f24⟩
        refine StepsU.cond ?_ ?_
        · intro L U wr hF hlk haf A K hA hK
          have HA : Hid (A = putAll _ _ U) := hA
          clear hA
          simp [Aft, Region.binds] at haf
          obtain ⟨fb, fk, fs, oX, oM, oP, f0, f1, f2, f3, f4, f5, f6, f7, f8, f9, f10, f11, f12, f13, f14, f15, f16, f17, f18, f19, f20, f21, f22, f23, f24⟩ := hF
          have gg := f10 (by simp [haf])
          have ee := rd HA.out 61 (by kernel_rfl) gg
          refine ⟨?_⟩
          rw [if_neg (by simp [Region.wanted, yielded, ee])]
          refine hK (upd U 62 undef) _ _ ?_ ?_
          · rw [HA.out]; kernel_rfl
          · exact ⟨fb, fk, fs, oX, oM, oP, f0, f1, f2, f3, f4, f5, f6, f7, f8, f9, f10, (fun _ => rfl), f12, f13, f14, f15, f16, f17, f18, f19, f20, f21, f22, f23, f24⟩
        refine StepsU.cond ?_ ?_
        · intro L U wr hF hlk haf A K hA hK
          have HA : Hid (A = putAll _ _ U) := hA
          clear hA
          simp [Aft, Region.binds] at haf
          obtain ⟨fb, fk, fs, oX, oM, oP, f0, f1, f2, f3, f4, f5, f6, f7, f8, f9, f10, f11, f12, f13, f14, f15, f16, f17, f18, f19, f20, f21, f22, f23, f24⟩ := hF
          have gg := f10 (by simp [haf])
          have ee := rd HA.out 61 (by kernel_rfl) gg
          refine ⟨?_⟩
          rw [if_neg (by simp [Region.wanted, yielded, ee])]
          refine hK (upd U 63 undef) _ _ ?_ ?_
          · rw [HA.out]; kernel_rfl
          · exact ⟨fb, fk, fs, oX, oM, oP, f0, f1, f2, f3, f4, f5, f6, f7, f8, f9, f10, f11, (fun _ => rfl), f13, f14, f15, f16, f17, f18, f19, f20, f21, f22, f23, f24⟩
        refine StepsU.cond ?_ ?_
        · intro L U wr hF hlk haf A K hA hK
          have HA : Hid (A = putAll _ _ U) := hA
          clear hA
          simp [Aft, Region.binds] at haf
          obtain ⟨fb, fk, fs, oX, oM, oP, f0, f1, f2, f3, f4, f5, f6, f7, f8, f9, f10, f11, f12, f13, f14, f15, f16, f17, f18, f19, f20, f21, f22, f23, f24⟩ := hF
          have gg := f10 (by simp [haf])
          have ee := rd HA.out 61 (by kernel_rfl) gg
          refine ⟨?_⟩
          rw [if_neg (by simp [Region.wanted, yielded, ee])]
          refine hK (upd U 64 undef) _ _ ?_ ?_
          · rw [HA.out]; kernel_rfl
          · exact ⟨fb, fk, fs, oX, oM, oP, f0, f1, f2, f3, f4, f5, f6, f7, f8, f9, f10, f11, f12, (fun _ => rfl), f14, f15, f16, f17, f18, f19, f20, f21, f22, f23, f24⟩
        refine StepsU.cond ?_ ?_
        · intro L U wr hF hlk haf A K hA hK
          have HA : Hid (A = putAll _ _ U) := hA
          clear hA
          simp [Aft, Region.binds] at haf
          obtain ⟨fb, fk, fs, oX, oM, oP, f0, f1, f2, f3, f4, f5, f6, f7, f8, f9, f10, f11, f12, f13, f14, f15, f16, f17, f18, f19, f20, f21, f22, f23, f24⟩ := hF
          have gg := f10 (by simp [haf])
          have ee := rd HA.out 61 (by kernel_rfl) gg
          refine ⟨?_⟩
          rw [if_neg (by simp [Region.wanted, yielded, ee])]
          refine hK (upd U 65 undef) _ _ ?_ ?_
          · rw [HA.out]; kernel_rfl
          · exact ⟨fb, fk, fs, oX, oM, oP, f0, f1, f2, f3, f4, f5, f6, f7, f8, f9, f10, f11, f12, f13, (fun _ => rfl), f15, f16, f17, f18, f19, f20, f21, f22, f23, f24⟩
        refine StepsU.cond ?_ ?_
        · intro L U wr hF hlk haf A K hA hK
          have HA : Hid (A = putAll _ _ U) := hA
          clear hA
          simp [Aft, Region.binds] at haf
          obtain ⟨fb, fk, fs, oX, oM, oP, f0, f1, f2, f3, f4, f5, f6, f7, f8, f9, f10, f11, f12, f13, f14, f15, f16, f17, f18, f19, f20, f21, f22, f23, f24⟩ := hF
          have gg := f10 (by simp [haf])
          have ee := rd HA.out 61 (by kernel_rfl) gg
          refine ⟨?_⟩
          rw [if_neg (by simp [Region.wanted, yielded, ee])]
          refine hK (upd U 66 undef) _ _ ?_ ?_
          · rw [HA.out]; kernel_rfl
          · exact ⟨fb, fk, fs, oX, oM, oP, f0, f1, f2, f3, f4, f5, f6, f7, f8, f9, f10, f11, f12, f13, f14, (fun _ => rfl), f16, f17, f18, f19, f20, f21, f22, f23, f24⟩
        refine StepsU.cond ?_ ?_
        · intro L U wr hF hlk haf A K hA hK
          have HA : Hid (A = putAll _ _ U) := hA
          clear hA
          simp [Aft, Region.binds] at haf
          obtain ⟨fb, fk, fs, oX, oM, oP, f0, f1, f2, f3, f4, f5, f6, f7, f8, f9, f10, f11, f12, f13, f14, f15, f16, f17, f18, f19, f20, f21, f22, f23, f24⟩ := hF
          have gg := f10 (by simp [haf])
          have ee := rd HA.out 61 (by kernel_rfl) gg
          refine ⟨?_⟩
          rw [if_neg (by simp [Region.wanted, yielded, ee])]
          refine hK (upd U 67 undef) _ _ ?_ ?_
          · rw [HA.out]; kernel_rfl
          · exact ⟨fb, fk, fs, oX, oM, oP, f0, f1, f2, f3, f4, f5, f6, f7, f8, f9, f10, f11, f12, f13, f14, f15, (fun _ => rfl), f17, f18, f19, f20, f21, f22, f23, f24⟩
        refine StepsU.cond ?_ ?_
        · intro L U wr hF hlk haf A K hA hK
          have HA : Hid (A = putAll _ _ U) := hA
          clear hA
          simp [Aft, Region.binds] at haf
          obtain ⟨fb, fk, fs, oX, oM, oP, f0, f1, f2, f3, f4, f5, f6, f7, f8, f9, f10, f11, f12, f13, f14, f15, f16, f17, f18, f19, f20, f21, f22, f23, f24⟩ := hF
          have gg := f16 (by simp [haf])
          have ee := rd HA.out 67 (by kernel_rfl) gg
          refine ⟨?_⟩
          rw [if_neg (by simp [Region.wanted, yielded, ee, undef])]
          refine hK (upd U 68 undef) _ _ ?_ ?_
          · rw [HA.out]; kernel_rfl
          · exact ⟨fb, fk, fs, oX, oM, oP, f0, f1, f2, f3, f4, f5, f6, f7, f8, f9, f10, f11, f12, f13, f14, f15, f16, (fun _ => rfl), f18, f19, f20, f21, f22, f23, f24⟩
        refine StepsU.cond ?_ ?_
        · intro L U wr hF hlk haf A K hA hK
          have HA : Hid (A = putAll _ _ U) := hA
          clear hA
          simp [Aft, Region.binds] at haf
          obtain ⟨fb, fk, fs, oX, oM, oP, f0, f1, f2, f3, f4, f5, f6, f7, f8, f9, f10, f11, f12, f13, f14, f15, f16, f17, f18, f19, f20, f21, f22, f23, f24⟩ := hF
          have gg := f16 (by simp [haf])
          have ee := rd HA.out 67 (by kernel_rfl) gg
          refine ⟨?_⟩
          rw [if_neg (by simp [Region.wanted, yielded, ee, undef])]
          refine hK (upd U 69 undef) _ _ ?_ ?_
          · rw [HA.out]; kernel_rfl
          · exact ⟨fb, fk, fs, oX, oM, oP, f0, f1, f2, f3, f4, f5, f6, f7, f8, f9, f10, f11, f12, f13, f14, f15, f16, f17, (fun _ => rfl), f19, f20, f21, f22, f23, f24⟩
        refine StepsU.cond ?_ ?_
        · intro L U wr hF hlk haf A K hA hK
          have HA : Hid (A = putAll _ _ U) := hA
          clear hA
          simp [Aft, Region.binds] at haf
          obtain ⟨fb, fk, fs, oX, oM, oP, f0, f1, f2, f3, f4, f5, f6, f7, f8, f9, f10, f11, f12, f13, f14, f15, f16, f17, f18, f19, f20, f21, f22, f23, f24⟩ := hF
          have gg := f16 (by simp [haf])
          have ee := rd HA.out 67 (by kernel_rfl) gg
          refine ⟨?_⟩
          rw [if_neg (by simp [Region.wanted, yielded, ee, undef])]
          refine hK (upd U 70 undef) _ _ ?_ ?_
          · rw [HA.out]; kernel_rfl
          · exact ⟨fb, fk, fs, oX, oM, oP, f0, f1, f2, f3, f4, f5, f6, f7, f8, f9, f10, f11, f12, f13, f14, f15, f16, f17, f18, (fun _ => rfl), f20, f21, f22, f23, f24⟩
        refine StepsU.cond ?_ ?_
        · intro L U wr hF hlk haf A K hA hK
          have HA : Hid (A = putAll _ _ U) := hA
          clear hA
          simp [Aft, Region.binds] at haf
          obtain ⟨fb, fk, fs, oX, oM, oP, f0, f1, f2, f3, f4, f5, f6, f7, f8, f9, f10, f11, f12, f13, f14, f15, f16, f17, f18, f19, f20, f21, f22, f23, f24⟩ := hF
          have gg := f16 (by simp [haf])
          have ee := rd HA.out 67 (by kernel_rfl) gg
          refine ⟨?_⟩
          rw [if_neg (by simp [Region.wanted, yielded, ee, undef])]
          refine hK (upd U 71 undef) _ _ ?_ ?_
          · rw [HA.out]; kernel_rfl
          · exact ⟨fb, fk, fs, oX, oM, oP, f0, f1, f2, f3, f4, f5, f6, f7, f8, f9, f10, f11, f12, f13, f14, f15, f16, f17, f18, f19, (fun _ => rfl), f21, f22, f23, f24⟩
        refine StepsU.cond ?_ ?_
        · intro L U wr hF hlk haf A K hA hK
          have HA : Hid (A = putAll _ _ U) := hA
          clear hA
          simp [Aft, Region.binds] at haf
          obtain ⟨fb, fk, fs, oX, oM, oP, f0, f1, f2, f3, f4, f5, f6, f7, f8, f9, f10, f11, f12, f13, f14, f15, f16, f17, f18, f19, f20, f21, f22, f23, f24⟩ := hF
          have gg := f16 (by simp [haf])
          have ee := rd HA.out 67 (by kernel_rfl) gg
          refine ⟨?_⟩
          rw [if_neg (by simp [Region.wanted, yielded, ee, undef])]
          refine hK (upd U 72 undef) _ _ ?_ ?_
          · rw [HA.out]; kernel_rfl
          · exact ⟨fb, fk, fs, oX, oM, oP, f0, f1, f2, f3, f4, f5, f6, f7, f8, f9, f10, f11, f12, f13, f14, f15, f16, f17, f18, f19, f20, (fun _ => rfl), f22, f23, f24⟩
        refine StepsU.cond ?_ ?_
        · intro L U wr hF hlk haf A K hA hK
          have HA : Hid (A = putAll _ _ U) := hA
          clear hA
          simp [Aft, Region.binds] at haf
          obtain ⟨fb, fk, fs, oX, oM, oP, f0, f1, f2, f3, f4, f5, f6, f7, f8, f9, f10, f11, f12, f13, f14, f15, f16, f17, f18, f19, f20, f21, f22, f23, f24⟩ := hF
          have gg := f10 (by simp [haf])
          have ee := rd HA.out 61 (by kernel_rfl) gg
          refine ⟨?_⟩
          rw [if_neg (by simp [Region.wanted, yielded, ee])]
          refine hK (upd U 73 undef) _ _ ?_ ?_
          · rw [HA.out]; kernel_rfl
          · exact ⟨fb, fk, fs, oX, oM, oP, f0, f1, f2, f3, f4, f5, f6, f7, f8, f9, f10, f11, f12, f13, f14, f15, f16, f17, f18, f19, f20, f21, (fun _ => rfl), f23, f24⟩
        refine StepsU.run rfl ?_ ?_
        · intro L U wr hF hlk haf A K hA hK
          have HA : Hid (A = putAll _ _ U) := hA
          clear hA
          simp [Aft, Region.binds] at haf
          obtain ⟨fb, fk, fs, oX, oM, oP, f0, f1, f2, f3, f4, f5, f6, f7, f8, f9, f10, f11, f12, f13, f14, f15, f16, f17, f18, f19, f20, f21, f22, f23, f24⟩ := hF
          have g10 := f10 (by simp [haf])
          have g22 := f22 (by simp [haf])
          have e61 := rd HA.out 61 (by kernel_rfl) g10
          have e73 := rd HA.out 73 (by kernel_rfl) g22
          refine ⟨?_⟩
          go_simp
          refine hK (upd U 74 (.bool true)) _ _ ?_ ?_
          · rw [HA.out]; kernel_rfl
          · exact ⟨fb, fk, fs, oX, oM, oP, f0, f1, f2, f3, f4, f5, f6, f7, f8, f9, f10, f11, f12, f13, f14, f15, f16, f17, f18, f19, f20, f21, f22, (fun _ => rfl), f24⟩
        refine StepsU.run rfl ?_ StepsU.nil
        · intro L U wr hF hlk haf A K hA hK
          have HA : Hid (A = putAll _ _ U) := hA
          clear hA
          simp [Aft, Region.binds] at haf
          obtain ⟨fb, fk, fs, oX, oM, oP, f0, f1, f2, f3, f4, f5, f6, f7, f8, f9, f10, f11, f12, f13, f14, f15, f16, f17, f18, f19, f20, f21, f22, f23, f24⟩ := hF
          have g23 := f23 (by simp [haf])
          have e74 := rd HA.out 74 (by kernel_rfl) rfl
          refine ⟨?_⟩
          go_simp
          refine hK (upd U 4 (U 74)) _ _ ?_ ?_
          · rw [HA.out]; kernel_rfl
          · exact ⟨fb, fk, fs, oX, oM, oP, f0, f1, f2, f3, f4, f5, f6, f7, f8, f9, f10, f11, f12, f13, f14, f15, f16, f17, f18, f19, f20, f21, f22, f23, (fun _ => g23)⟩
      intro L U7 V7 hall hF
      have hbw0 := hbw
      clear hbw
      obtain ⟨hbw, fk, fs, oX, oM, oP, f0, f1, f2, f3, f4, f5, f6, f7, f8, f9, f10, f11, f12, f13, f14, f15, f16, f17, f18, f19, f20, f21, f22, f23, f24⟩ := hF
      have g0 := f0 (hall 0 (by decide))
      have g1 := f1 (hall 1 (by decide))
      have g2 := f2 (hall 2 (by decide))
      have g3 := f3 (hall 3 (by decide))
      have g4 := f4 (hall 4 (by decide))
      have g5 := f5 (hall 5 (by decide))
      have g6 := f6 (hall 6 (by decide))
      have g7 := f7 (hall 7 (by decide))
      have g8 := f8 (hall 8 (by decide))
      have g9 := f9 (hall 9 (by decide))
      have g10 := f10 (hall 10 (by decide))
      have g11 := f11 (hall 11 (by decide))
      have g12 := f12 (hall 12 (by decide))
      have g13 := f13 (hall 13 (by decide))
      have g14 := f14 (hall 14 (by decide))
      have g15 := f15 (hall 15 (by decide))
      have g16 := f16 (hall 16 (by decide))
      have g17 := f17 (hall 17 (by decide))
      have g18 := f18 (hall 18 (by decide))
      have g19 := f19 (hall 19 (by decide))
      have g20 := f20 (hall 20 (by decide))
      have g21 := f21 (hall 21 (by decide))
      have g22 := f22 (hall 22 (by decide))
      have g23 := f23 (hall 23 (by decide))
      have g24 := f24 (hall 24 (by decide))
      clear hall f0 f1 f2 f3 f4 f5 f6 f7 f8 f9 f10 f11 f12 f13 f14 f15 f16 f17 f18 f19 f20 f21 f22 f23 f24
      replace hA := hA.keepI fk
      replace hC := hC.keepI fk
      replace hX := hX.keepI fk
      replace hM := hM.keepI fk
      replace hP := hP.keepI fk
      replace ltX := Nat.lt_of_lt_of_le ltX fs
      replace ltM := Nat.lt_of_lt_of_le ltM fs
      replace ltP := Nat.lt_of_lt_of_le ltP fs
      clear g0
      clear g1
      clear g2
      clear g3
      clear g4
      clear g5
      clear g6
      clear g7
      clear g8
      clear g9
      clear g10
      clear g11
      clear g12
      clear g13
      clear g14
      clear g15
      clear g16
      clear g17
      clear g18
      clear g19
      clear g20
      clear g21
      clear g22
      clear g23
      clear hbw0
      simp only [setM_some, setM_none, setM_nil]
      clear ltA oA
      clear ltC oC
      clear fk fs
      have eT : U7 4 = _ := g24
      try simp only []
      try go_at_K
      repeat (first | go_values | go_skip | go_guarded | go_step | go_upon)
      refine bodyPost_ret (v := (.bool true)) (by simp [results, Try.results7, go_sem, eT]) rfl ?_
      exact ⟨rfl, hbw⟩
  · have E1 : (ca != 0) = true := by rw [bne_iff_ne]; exact h1
    clear h1
    go_wp2
    refine wp_region_M (by kernel_rfl) [4, 51, 52, 53, 54, 55, 56, 57, 58, 59, 60, 61, 62, 63, 64, 65, 66, 67, 68, 69, 70, 71, 72, 73, 74] [none, none, none, none, some 4, none, none, none, none, none, none, none, none, none, none, none, none, none, none, none, none, none, none, none, none, none, none, none, none, none, none, none, none, none, none, none, none, none, none, none, none, none, none, none, none, none, none, none, none, none, none, some 51, some 52, some 53, some 54, some 55, some 56, some 57, some 58, some 59, some 60, some 61, some 62, some 63, some 64, some 65, some 66, some 67, some 68, some 69, some 70, some 71, some 72, some 73, some 74] (fun U => by kernel_rfl) (fun L U wr => Below w.heap.size w wr ∧ KeepI V6 wr ∧ V6.heap.size ≤ wr.heap.size ∧ Blk 27 wr (bX) #[.bool xX, .slice aX nX cX, .bool yX, .slice eX mX fX] ∧ Blk 25 wr (bM) #[.bool xM, .slice aM nM cM] ∧ Blk 25 wr (bP) #[.bool xP, .slice aP nP cP] ∧ (L 0 = true → IS (.int .i64 ca) (U 51) wr) ∧ (L 1 = true → IS (.bool true) (U 52) wr) ∧ (L 2 = true → IS (.bool true) (U 53) wr) ∧ (L 3 = true → IS undef (U 54) wr) ∧ (L 4 = true → IS undef (U 55) wr) ∧ (L 5 = true → IS (.bool true) (U 56) wr) ∧ (L 6 = true → IS (.bool true) (U 57) wr) ∧ (L 7 = true → IS undef (U 58) wr) ∧ (L 8 = true → IS undef (U 59) wr) ∧ (L 9 = true → IS (.bool true) (U 60) wr) ∧ (L 10 = true → IS (.bool true) (U 61) wr) ∧ (L 11 = true → IS undef (U 62) wr) ∧ (L 12 = true → IS undef (U 63) wr) ∧ (L 13 = true → IS undef (U 64) wr) ∧ (L 14 = true → IS undef (U 65) wr) ∧ (L 15 = true → IS undef (U 66) wr) ∧ (L 16 = true → IS undef (U 67) wr) ∧ (L 17 = true → IS undef (U 68) wr) ∧ (L 18 = true → IS undef (U 69) wr) ∧ (L 19 = true → IS undef (U 70) wr) ∧ (L 20 = true → IS undef (U 71) wr) ∧ (L 21 = true → IS undef (U 72) wr) ∧ (L 22 = true → IS undef (U 73) wr) ∧ (L 23 = true → IS (.bool true) (U 74) wr) ∧ (L 24 = true → IS (.bool true) (U 4) wr)) (by kernel_rfl) ?_ ?_ ?_
    · exact fun U => ⟨hbw.drew, KeepI.below (Below.refl _ _).drew, Nat.le_refl _, oX.drew, oM.drew, oP.drew, (fun h => by cases h), (fun h => by cases h), (fun h => by cases h), (fun h => by cases h), (fun h => by cases h), (fun h => by cases h), (fun h => by cases h), (fun h => by cases h), (fun h => by cases h), (fun h => by cases h), (fun h => by cases h), (fun h => by cases h), (fun h => by cases h), (fun h => by cases h), (fun h => by cases h), (fun h => by cases h), (fun h => by cases h), (fun h => by cases h), (fun h => by cases h), (fun h => by cases h), (fun h => by cases h), (fun h => by cases h), (fun h => by cases h), (fun h => by cases h), (fun h => by cases h)⟩
    · refine StepsU.run rfl ?_ ?_
      · intro L U wr hF hlk haf A K hA hK
        have HA : Hid (A = putAll _ _ U) := hA
        clear hA
        simp [Aft, Region.binds] at haf
        obtain ⟨fb, fk, fs, oX, oM, oP, f0, f1, f2, f3, f4, f5, f6, f7, f8, f9, f10, f11, f12, f13, f14, f15, f16, f17, f18, f19, f20, f21, f22, f23, f24⟩ := hF
        have e10 : A.tmps[10]? = some (.int .i64 ca) := by rw [HA.out]; kernel_rfl
        refine ⟨?_⟩
        go_simp
        refine hK (upd U 51 (.int .i64 ca)) _ _ ?_ ?_
        · rw [HA.out]; kernel_rfl
        · exact ⟨fb, fk, fs, oX, oM, oP, (fun _ => rfl), f1, f2, f3, f4, f5, f6, f7, f8, f9, f10, f11, f12, f13, f14, f15, f16, f17, f18, f19, f20, f21, f22, f23, f24⟩
      refine StepsU.run rfl ?_ ?_
      · intro L U wr hF hlk haf A K hA hK
        have HA : Hid (A = putAll _ _ U) := hA
        clear hA
        simp [Aft, Region.binds] at haf
        obtain ⟨fb, fk, fs, oX, oM, oP, f0, f1, f2, f3, f4, f5, f6, f7, f8, f9, f10, f11, f12, f13, f14, f15, f16, f17, f18, f19, f20, f21, f22, f23, f24⟩ := hF
        have g0 := f0 (by simp [haf])
        have e51 := rd HA.out 51 (by kernel_rfl) g0
        refine ⟨?_⟩
        go_simp
        refine hK (upd U 52 (.bool true)) _ _ ?_ ?_
        · rw [HA.out]; kernel_rfl
        · exact ⟨fb, fk, fs, oX, oM, oP, f0, (fun _ => rfl), f2, f3, f4, f5, f6, f7, f8, f9, f10, f11, f12, f13, f14, f15, f16, f17, f18, f19, f20, f21, f22, f23, f24⟩
      refine StepsU.run rfl ?_ ?_
      · intro L U wr hF hlk haf A K hA hK
        have HA : Hid (A = putAll _ _ U) := hA
        clear hA
        simp [Aft, Region.binds] at haf
        obtain ⟨fb, fk, fs, oX, oM, oP, f0, f1, f2, f3, f4, f5, f6, f7, f8, f9, f10, f11, f12, f13, f14, f15, f16, f17, f18, f19, f20, f21, f22, f23, f24⟩ := hF
        have g1 := f1 (by simp [haf])
        have e52 := rd HA.out 52 (by kernel_rfl) rfl
        refine ⟨?_⟩
        go_simp
        refine hK (upd U 53 (U 52)) _ _ ?_ ?_
        · rw [HA.out]; kernel_rfl
        · exact ⟨fb, fk, fs, oX, oM, oP, f0, f1, (fun _ => g1), f3, f4, f5, f6, f7, f8, f9, f10, f11, f12, f13, f14, f15, f16, f17, f18, f19, f20, f21, f22, f23, f24⟩
      refine StepsU.cond ?_ ?_
      · intro L U wr hF hlk haf A K hA hK
        have HA : Hid (A = putAll _ _ U) := hA
        clear hA
        simp [Aft, Region.binds] at haf
        obtain ⟨fb, fk, fs, oX, oM, oP, f0, f1, f2, f3, f4, f5, f6, f7, f8, f9, f10, f11, f12, f13, f14, f15, f16, f17, f18, f19, f20, f21, f22, f23, f24⟩ := hF
        have gg := f2 (by simp [haf])
        have ee := rd HA.out 53 (by kernel_rfl) gg
        refine ⟨?_⟩
        rw [if_neg (by simp [Region.wanted, yielded, ee])]
        refine hK (upd U 54 undef) _ _ ?_ ?_
        · rw [HA.out]; kernel_rfl
        · exact ⟨fb, fk, fs, oX, oM, oP, f0, f1, f2, (fun _ => rfl), f4, f5, f6, f7, f8, f9, f10, f11, f12, f13, f14, f15, f16, f17, f18, f19, f20, f21, f22, f23, f24⟩
      refine StepsU.cond ?_ ?_
      · intro L U wr hF hlk haf A K hA hK
        have HA : Hid (A = putAll _ _ U) := hA
        clear hA
        simp [Aft, Region.binds] at haf
        obtain ⟨fb, fk, fs, oX, oM, oP, f0, f1, f2, f3, f4, f5, f6, f7, f8, f9, f10, f11, f12, f13, f14, f15, f16, f17, f18, f19, f20, f21, f22, f23, f24⟩ := hF
        have gg := f2 (by simp [haf])
        have ee := rd HA.out 53 (by kernel_rfl) gg
        refine ⟨?_⟩
        rw [if_neg (by simp [Region.wanted, yielded, ee])]
        refine hK (upd U 55 undef) _ _ ?_ ?_
        · rw [HA.out]; kernel_rfl
        · exact ⟨fb, fk, fs, oX, oM, oP, f0, f1, f2, f3, (fun _ => rfl), f5, f6, f7, f8, f9, f10, f11, f12, f13, f14, f15, f16, f17, f18, f19, f20, f21, f22, f23, f24⟩
      refine StepsU.run rfl ?_ ?_
      · intro L U wr hF hlk haf A K hA hK
        have HA : Hid (A = putAll _ _ U) := hA
        clear hA
        simp [Aft, Region.binds] at haf
        obtain ⟨fb, fk, fs, oX, oM, oP, f0, f1, f2, f3, f4, f5, f6, f7, f8, f9, f10, f11, f12, f13, f14, f15, f16, f17, f18, f19, f20, f21, f22, f23, f24⟩ := hF
        have g2 := f2 (by simp [haf])
        have g4 := f4 (by simp [haf])
        have e53 := rd HA.out 53 (by kernel_rfl) g2
        have e55 := rd HA.out 55 (by kernel_rfl) g4
        refine ⟨?_⟩
        go_simp
        refine hK (upd U 56 (.bool true)) _ _ ?_ ?_
        · rw [HA.out]; kernel_rfl
        · exact ⟨fb, fk, fs, oX, oM, oP, f0, f1, f2, f3, f4, (fun _ => rfl), f6, f7, f8, f9, f10, f11, f12, f13, f14, f15, f16, f17, f18, f19, f20, f21, f22, f23, f24⟩
      refine StepsU.run rfl ?_ ?_
      · intro L U wr hF hlk haf A K hA hK
        have HA : Hid (A = putAll _ _ U) := hA
        clear hA
        simp [Aft, Region.binds] at haf
        obtain ⟨fb, fk, fs, oX, oM, oP, f0, f1, f2, f3, f4, f5, f6, f7, f8, f9, f10, f11, f12, f13, f14, f15, f16, f17, f18, f19, f20, f21, f22, f23, f24⟩ := hF
        have g5 := f5 (by simp [haf])
        have e56 := rd HA.out 56 (by kernel_rfl) rfl
        refine ⟨?_⟩
        go_simp
        refine hK (upd U 57 (U 56)) _ _ ?_ ?_
        · rw [HA.out]; kernel_rfl
        · exact ⟨fb, fk, fs, oX, oM, oP, f0, f1, f2, f3, f4, f5, (fun _ => g5), f7, f8, f9, f10, f11, f12, f13, f14, f15, f16, f17, f18, f19, f20, f21, f22, f23, f24⟩
      refine StepsU.cond ?_ ?_
      · intro L U wr hF hlk haf A K hA hK
        have HA : Hid (A = putAll _ _ U) := hA
        clear hA
        simp [Aft, Region.binds] at haf
        obtain ⟨fb, fk, fs, oX, oM, oP, f0, f1, f2, f3, f4, f5, f6, f7, f8, f9, f10, f11, f12, f13, f14, f15, f16, f17, f18, f19, f20, f21, f22, f23, f24⟩ := hF
        have gg := f6 (by simp [haf])
        have ee := rd HA.out 57 (by kernel_rfl) gg
        refine ⟨?_⟩
        rw [if_neg (by simp [Region.wanted, yielded, ee])]
        refine hK (upd U 58 undef) _ _ ?_ ?_
        · rw [HA.out]; kernel_rfl
        · exact ⟨fb, fk, fs, oX, oM, oP, f0, f1, f2, f3, f4, f5, f6, (fun _ => rfl), f8, f9, f10, f11, f12, f13, f14, f15, f16, f17, f18, f19, f20, f21, f22, f23, f24⟩
      refine StepsU.cond ?_ ?_
      · intro L U wr hF hlk haf A K hA hK
        have HA : Hid (A = putAll _ _ U) := hA
        clear hA
        simp [Aft, Region.binds] at haf
        obtain ⟨fb, fk, fs, oX, oM, oP, f0, f1, f2, f3, f4, f5, f6, f7, f8, f9, f10, f11, f12, f13, f14, f15, f16, f17, f18, f19, f20, f21, f22, f23, f24⟩ := hF
        have gg := f6 (by simp [haf])
        have ee := rd HA.out 57 (by kernel_rfl) gg
        refine ⟨?_⟩
        rw [if_neg (by simp [Region.wanted, yielded, ee])]
        refine hK (upd U 59 undef) _ _ ?_ ?_
        · rw [HA.out]; kernel_rfl
        · exact ⟨fb, fk, fs, oX, oM, oP, f0, f1, f2, f3, f4, f5, f6, f7, (fun _ => rfl), f9, f10, f11, f12, f13, f14, f15, f16, f17, f18, f19, f20, f21, f22, f23, f24⟩
      refine StepsU.run rfl ?_ ?_
      · intro L U wr hF hlk haf A K hA hK
        have HA : Hid (A = putAll _ _ U) := hA
        clear hA
        simp [Aft, Region.binds] at haf
        obtain ⟨fb, fk, fs, oX, oM, oP, f0, f1, f2, f3, f4, f5, f6, f7, f8, f9, f10, f11, f12, f13, f14, f15, f16, f17, f18, f19, f20, f21, f22, f23, f24⟩ := hF
        have g6 := f6 (by simp [haf])
        have g8 := f8 (by simp [haf])
        have e57 := rd HA.out 57 (by kernel_rfl) g6
        have e59 := rd HA.out 59 (by kernel_rfl) g8
        refine ⟨?_⟩
        go_simp
        refine hK (upd U 60 (.bool true)) _ _ ?_ ?_
        · rw [HA.out]; kernel_rfl
        · exact ⟨fb, fk, fs, oX, oM, oP, f0, f1, f2, f3, f4, f5, f6, f7, f8, (fun _ => rfl), f10, f11, f12, f13, f14, f15, f16, f17, f18, f19, f20, f21, f22, f23, f24⟩
      refine StepsU.run rfl ?_ ?_
      · intro L U wr hF hlk haf A K hA hK
        have HA : Hid (A = putAll _ _ U) := hA
        clear hA
        simp [Aft, Region.binds] at haf
        obtain ⟨fb, fk, fs, oX, oM, oP, f0, f1, f2, f3, f4, f5, f6, f7, f8, f9, f10, f11, f12, f13, f14, f15, f16, f17, f18, f19, f20, f21, f22, f23, f24⟩ := hF
        have g9 := f9 (by simp [haf])
        have e60 := rd HA.out 60 (by kernel_rfl) rfl
        refine ⟨?_⟩
        go_simp
        refine hK (upd U 61 (U 60)) _ _ ?_ ?_
        · rw [HA.out]; kernel_rfl
        · exact ⟨fb, fk, fs, oX, oM, oP, f0, f1, f2, f3, f4, f5, f6, f7, f8, f9, (fun _ => g9), f11, f12, f13, f14, f15, f16, f17, f18, f19, f20, f21, f22, f23, f24⟩
      refine StepsU.cond ?_ ?_
      · intro L U wr hF hlk haf A K hA hK
        have HA : Hid (A = putAll _ _ U) := hA
        clear hA
        simp [Aft, Region.binds] at haf
        obtain ⟨fb, fk, fs, oX, oM, oP, f0, f1, f2, f3, f4, f5, f6, f7, f8, f9, f10, f11, f12, f13, f14, f15, f16, f17, f18, f19, f20, f21, f22, f23, f24⟩ := hF
        have gg := f10 (by simp [haf])
        have ee := rd HA.out 61 (by kernel_rfl) gg
        refine ⟨?_⟩
        rw [if_neg (by simp [Region.wanted, yielded, ee])]
        refine hK (upd U 62 undef) _ _ ?_ ?_
        · rw [HA.out]; kernel_rfl
        · exact ⟨fb, fk, fs, oX, oM, oP, f0, f1, f2, f3, f4, f5, f6, f7, f8, f9, f10, (fun _ => rfl), f12, f13, f14, f15, f16, f17, f18, f19, f20, f21, f22, f23, f24⟩
      refine StepsU.cond ?_ ?_
      · intro L U wr hF hlk haf A K hA hK
        have HA : Hid (A = putAll _ _ U) := hA
        clear hA
        simp [Aft, Region.binds] at haf
        obtain ⟨fb, fk, fs, oX, oM, oP, f0, f1, f2, f3, f4, f5, f6, f7, f8, f9, f10, f11, f12, f13, f14, f15, f16, f17, f18, f19, f20, f21, f22, f23, f24⟩ := hF
        have gg := f10 (by simp [haf])
        have ee := rd HA.out 61 (by kernel_rfl) gg
        refine ⟨?_⟩
        rw [if_neg (by simp [Region.wanted, yielded, ee])]
        refine hK (upd U 63 undef) _ _ ?_ ?_
        · rw [HA.out]; kernel_rfl
        · exact ⟨fb, fk, fs, oX, oM, oP, f0, f1, f2, f3, f4, f5, f6, f7, f8, f9, f10, f11, (fun _ => rfl), f13, f14, f15, f16, f17, f18, f19, f20, f21, f22, f23, f24⟩
      refine StepsU.cond ?_ ?_
      · intro L U wr hF hlk haf A K hA hK
        have HA : Hid (A = putAll _ _ U) := hA
        clear hA
        simp [Aft, Region.binds] at haf
        obtain ⟨fb, fk, fs, oX, oM, oP, f0, f1, f2, f3, f4, f5, f6, f7, f8, f9, f10, f11, f12, f13, f14, f15, f16, f17, f18, f19, f20, f21, f22, f23, f24⟩ := hF
        have gg := f10 (by simp [haf])
        have ee := rd HA.out 61 (by kernel_rfl) gg
        refine ⟨?_⟩
        rw [if_neg (by simp [Region.wanted, yielded, ee])]
        refine hK (upd U 64 undef) _ _ ?_ ?_
        · rw [HA.out]; kernel_rfl
        · exact ⟨fb, fk, fs, oX, oM, oP, f0, f1, f2, f3, f4, f5, f6, f7, f8, f9, f10, f11, f12, (fun _ => rfl), f14, f15, f16, f17, f18, f19, f20, f21, f22, f23, f24⟩
      refine StepsU.cond ?_ ?_
      · intro L U wr hF hlk haf A K hA hK
        have HA : Hid (A = putAll _ _ U) := hA
        clear hA
        simp [Aft, Region.binds] at haf
        obtain ⟨fb, fk, fs, oX, oM, oP, f0, f1, f2, f3, f4, f5, f6, f7, f8, f9, f10, f11, f12, f13, f14, f15, f16, f17, f18, f19, f20, f21, f22, f23, f24⟩ := hF
        have gg := f10 (by simp [haf])
        have ee := rd HA.out 61 (by kernel_rfl) gg
        refine ⟨?_⟩
        rw [if_neg (by simp [Region.wanted, yielded, ee])]
        refine hK (upd U 65 undef) _ _ ?_ ?_
        · rw [HA.out]; kernel_rfl
        · exact ⟨fb, fk, fs, oX, oM, oP, f0, f1, f2, f3, f4, f5, f6, f7, f8, f9, f10, f11, f12, f13, (fun _ => rfl), f15, f16, f17, f18, f19, f20, f21, f22, f23, f24⟩
      refine StepsU.cond ?_ ?_
      · intro L U wr hF hlk haf A K hA hK
        have HA : Hid (A = putAll _ _ U) := hA
        clear hA
        simp [Aft, Region.binds] at haf
        obtain ⟨fb, fk, fs, oX, oM, oP, f0, f1, f2, f3, f4, f5, f6, f7, f8, f9, f10, f11, f12, f13, f14, f15, f16, f17, f18, f19, f20, f21, f22, f23, f24⟩ := hF
        have gg := f10 (by simp [haf])
        have ee := rd HA.out 61 (by kernel_rfl) gg
        refine ⟨?_⟩
        rw [if_neg (by simp [Region.wanted, yielded, ee])]
        refine hK (upd U 66 undef) _ _ ?_ ?_
        · rw [HA.out]; kernel_rfl
        · exact ⟨fb, fk, fs, oX, oM, oP, f0, f1, f2, f3, f4, f5, f6, f7, f8, f9, f10, f11, f12, f13, f14, (fun _ => rfl), f16, f17, f18, f19, f20, f21, f22, f23, f24⟩
      refine StepsU.cond ?_ ?_
      · intro L U wr hF hlk haf A K hA hK
        have HA : Hid (A = putAll _ _ U) := hA
        clear hA
        simp [Aft, Region.binds] at haf
        obtain ⟨fb, fk, fs, oX, oM, oP, f0, f1, f2, f3, f4, f5, f6, f7, f8, f9, f10, f11, f12, f13, f14, f15, f16, f17, f18, f19, f20, f21, f22, f23, f24⟩ := hF
        have gg := f10 (by simp [haf])
        have ee := rd HA.out 61 (by kernel_rfl) gg
        refine ⟨?_⟩
        rw [if_neg (by simp [Region.wanted, yielded, ee])]
        refine hK (upd U 67 undef) _ _ ?_ ?_
        · rw [HA.out]; kernel_rfl
        · exact ⟨fb, fk, fs, oX, oM, oP, f0, f1, f2, f3, f4, f5, f6, f7, f8, f9, f10, f11, f12, f13, f14, f15, (fun _ => rfl), f17, f18, f19, f20, f21, f22, f23, f24⟩
      refine StepsU.cond ?_ ?_
      · intro L U wr hF hlk haf A K hA hK
        have HA : Hid (A = putAll _ _ U) := hA
        clear hA
        simp [Aft, Region.binds] at haf
        obtain ⟨fb, fk, fs, oX, oM, oP, f0, f1, f2, f3, f4, f5, f6, f7, f8, f9, f10, f11, f12, f13, f14, f15, f16, f17, f18, f19, f20, f21, f22, f23, f24⟩ := hF
        have gg := f16 (by simp [haf])
        have ee := rd HA.out 67 (by kernel_rfl) gg
        refine ⟨?_⟩
        rw [if_neg (by simp [Region.wanted, yielded, ee, undef])]
        refine hK (upd U 68 undef) _ _ ?_ ?_
        · rw [HA.out]; kernel_rfl
        · exact ⟨fb, fk, fs, oX, oM, oP, f0, f1, f2, f3, f4, f5, f6, f7, f8, f9, f10, f11, f12, f13, f14, f15, f16, (fun _ => rfl), f18, f19, f20, f21, f22, f23, f24⟩
      refine StepsU.cond ?_ ?_
      · intro L U wr hF hlk haf A K hA hK
        have HA : Hid (A = putAll _ _ U) := hA
        clear hA
        simp [Aft, Region.binds] at haf
        obtain ⟨fb, fk, fs, oX, oM, oP, f0, f1, f2, f3, f4, f5, f6, f7, f8, f9, f10, f11, f12, f13, f14, f15, f16, f17, f18, f19, f20, f21, f22, f23, f24⟩ := hF
        have gg := f16 (by simp [haf])
        have ee := rd HA.out 67 (by kernel_rfl) gg
        refine ⟨?_⟩
        rw [if_neg (by simp [Region.wanted, yielded, ee, undef])]
        refine hK (upd U 69 undef) _ _ ?_ ?_
        · rw [HA.out]; kernel_rfl
        · exact ⟨fb, fk, fs, oX, oM, oP, f0, f1, f2, f3, f4, f5, f6, f7, f8, f9, f10, f11, f12, f13, f14, f15, f16, f17, (fun _ => rfl), f19, f20, f21, f22, f23, f24⟩
      refine StepsU.cond ?_ ?_
      · intro L U wr hF hlk haf A K hA hK
        have HA : Hid (A = putAll _ _ U) := hA
        clear hA
        simp [Aft, Region.binds] at haf
        obtain ⟨fb, fk, fs, oX, oM, oP, f0, f1, f2, f3, f4, f5, f6, f7, f8, f9, f10, f11, f12, f13, f14, f15, f16, f17, f18, f19, f20, f21, f22, f23, f24⟩ := hF
        have gg := f16 (by simp [haf])
        have ee := rd HA.out 67 (by kernel_rfl) gg
        refine ⟨?_⟩
        rw [if_neg (by simp [Region.wanted, yielded, ee, undef])]
        refine hK (upd U 70 undef) _ _ ?_ ?_
        · rw [HA.out]; kernel_rfl
        · exact ⟨fb, fk, fs, oX, oM, oP, f0, f1, f2, f3, f4, f5, f6, f7, f8, f9, f10, f11, f12, f13, f14, f15, f16, f17, f18, (fun _ => rfl), f20, f21, f22, f23, f24⟩
      refine StepsU.cond ?_ ?_
      · intro L U wr hF hlk haf A K hA hK
        have HA : Hid (A = putAll _ _ U) := hA
        clear hA
        simp [Aft, Region.binds] at haf
        obtain ⟨fb, fk, fs, oX, oM, oP, f0, f1, f2, f3, f4, f5, f6, f7, f8, f9, f10, f11, f12, f13, f14, f15, f16, f17, f18, f19, f20, f21, f22, f23, f24⟩ := hF
        have gg := f16 (by simp [haf])
        have ee := rd HA.out 67 (by kernel_rfl) gg
        refine ⟨?_⟩
        rw [if_neg (by simp [Region.wanted, yielded, ee, undef])]
        refine hK (upd U 71 undef) _ _ ?_ ?_
        · rw [HA.out]; kernel_rfl
        · exact ⟨fb, fk, fs, oX, oM, oP, f0, f1, f2, f3, f4, f5, f6, f7, f8, f9, f10, f11, f12, f13, f14, f15, f16, f17, f18, f19, (fun _ => rfl), f21, f22, f23, f24⟩
      refine StepsU.cond ?_ ?_
      · intro L U wr hF hlk haf A K hA hK
        have HA : Hid (A = putAll _ _ U) := hA
        clear hA
        simp [Aft, Region.binds] at haf
        obtain ⟨fb, fk, fs, oX, oM, oP, f0, f1, f2, f3, f4, f5, f6, f7, f8, f9, f10, f11, f12, f13, f14, f15, f16, f17, f18, f19, f20, f21, f22, f23, f24⟩ := hF
        have gg := f16 (by simp [haf])
        have ee := rd HA.out 67 (by kernel_rfl) gg
        refine ⟨?_⟩
        rw [if_neg (by simp [Region.wanted, yielded, ee, undef])]
        refine hK (upd U 72 undef) _ _ ?_ ?_
        · rw [HA.out]; kernel_rfl
        · exact ⟨fb, fk, fs, oX, oM, oP, f0, f1, f2, f3, f4, f5, f6, f7, f8, f9, f10, f11, f12, f13, f14, f15, f16, f17, f18, f19, f20, (fun _ => rfl), f22, f23, f24⟩
      refine StepsU.cond ?_ ?_
      · intro L U wr hF hlk haf A K hA hK
        have HA : Hid (A = putAll _ _ U) := hA
        clear hA
        simp [Aft, Region.binds] at haf
        obtain ⟨fb, fk, fs, oX, oM, oP, f0, f1, f2, f3, f4, f5, f6, f7, f8, f9, f10, f11, f12, f13, f14, f15, f16, f17, f18, f19, f20, f21, f22, f23, f24⟩ := hF
        have gg := f10 (by simp [haf])
        have ee := rd HA.out 61 (by kernel_rfl) gg
        refine ⟨?_⟩
        rw [if_neg (by simp [Region.wanted, yielded, ee])]
        refine hK (upd U 73 undef) _ _ ?_ ?_
        · rw [HA.out]; kernel_rfl
        · exact ⟨fb, fk, fs, oX, oM, oP, f0, f1, f2, f3, f4, f5, f6, f7, f8, f9, f10, f11, f12, f13, f14, f15, f16, f17, f18, f19, f20, f21, (fun _ => rfl), f23, f24⟩
      refine StepsU.run rfl ?_ ?_
      · intro L U wr hF hlk haf A K hA hK
        have HA : Hid (A = putAll _ _ U) := hA
        clear hA
        simp [Aft, Region.binds] at haf
        obtain ⟨fb, fk, fs, oX, oM, oP, f0, f1, f2, f3, f4, f5, f6, f7, f8, f9, f10, f11, f12, f13, f14, f15, f16, f17, f18, f19, f20, f21, f22, f23, f24⟩ := hF
        have g10 := f10 (by simp [haf])
        have g22 := f22 (by simp [haf])
        have e61 := rd HA.out 61 (by kernel_rfl) g10
        have e73 := rd HA.out 73 (by kernel_rfl) g22
        refine ⟨?_⟩
        go_simp
        refine hK (upd U 74 (.bool true)) _ _ ?_ ?_
        · rw [HA.out]; kernel_rfl
        · exact ⟨fb, fk, fs, oX, oM, oP, f0, f1, f2, f3, f4, f5, f6, f7, f8, f9, f10, f11, f12, f13, f14, f15, f16, f17, f18, f19, f20, f21, f22, (fun _ => rfl), f24⟩
      refine StepsU.run rfl ?_ StepsU.nil
      · intro L U wr hF hlk haf A K hA hK
        have HA : Hid (A = putAll _ _ U) := hA
        clear hA
        simp [Aft, Region.binds] at haf
        obtain ⟨fb, fk, fs, oX, oM, oP, f0, f1, f2, f3, f4, f5, f6, f7, f8, f9, f10, f11, f12, f13, f14, f15, f16, f17, f18, f19, f20, f21, f22, f23, f24⟩ := hF
        have g23 := f23 (by simp [haf])
        have e74 := rd HA.out 74 (by kernel_rfl) rfl
        refine ⟨?_⟩
        go_simp
        refine hK (upd U 4 (U 74)) _ _ ?_ ?_
        · rw [HA.out]; kernel_rfl
        · exact ⟨fb, fk, fs, oX, oM, oP, f0, f1, f2, f3, f4, f5, f6, f7, f8, f9, f10, f11, f12, f13, f14, f15, f16, f17, f18, f19, f20, f21, f22, f23, (fun _ => g23)⟩
    intro L U7 V7 hall hF
    have hbw0 := hbw
    clear hbw
    obtain ⟨hbw, fk, fs, oX, oM, oP, f0, f1, f2, f3, f4, f5, f6, f7, f8, f9, f10, f11, f12, f13, f14, f15, f16, f17, f18, f19, f20, f21, f22, f23, f24⟩ := hF
    have g0 := f0 (hall 0 (by decide))
    have g1 := f1 (hall 1 (by decide))
    have g2 := f2 (hall 2 (by decide))
    have g3 := f3 (hall 3 (by decide))
    have g4 := f4 (hall 4 (by decide))
    have g5 := f5 (hall 5 (by decide))
    have g6 := f6 (hall 6 (by decide))
    have g7 := f7 (hall 7 (by decide))
    have g8 := f8 (hall 8 (by decide))
    have g9 := f9 (hall 9 (by decide))
    have g10 := f10 (hall 10 (by decide))
    have g11 := f11 (hall 11 (by decide))
    have g12 := f12 (hall 12 (by decide))
    have g13 := f13 (hall 13 (by decide))
    have g14 := f14 (hall 14 (by decide))
    have g15 := f15 (hall 15 (by decide))
    have g16 := f16 (hall 16 (by decide))
    have g17 := f17 (hall 17 (by decide))
    have g18 := f18 (hall 18 (by decide))
    have g19 := f19 (hall 19 (by decide))
    have g20 := f20 (hall 20 (by decide))
    have g21 := f21 (hall 21 (by decide))
    have g22 := f22 (hall 22 (by decide))
    have g23 := f23 (hall 23 (by decide))
    have g24 := f24 (hall 24 (by decide))
    clear hall f0 f1 f2 f3 f4 f5 f6 f7 f8 f9 f10 f11 f12 f13 f14 f15 f16 f17 f18 f19 f20 f21 f22 f23 f24
    replace hA := hA.keepI fk
    replace hC := hC.keepI fk
    replace hX := hX.keepI fk
    replace hM := hM.keepI fk
    replace hP := hP.keepI fk
    replace ltX := Nat.lt_of_lt_of_le ltX fs
    replace ltM := Nat.lt_of_lt_of_le ltM fs
    replace ltP := Nat.lt_of_lt_of_le ltP fs
    clear g0
    clear g1
    clear g2
    clear g3
    clear g4
    clear g5
    clear g6
    clear g7
    clear g8
    clear g9
    clear g10
    clear g11
    clear g12
    clear g13
    clear g14
    clear g15
    clear g16
    clear g17
    clear g18
    clear g19
    clear g20
    clear g21
    clear g22
    clear g23
    clear hbw0
    simp only [setM_some, setM_none, setM_nil]
    clear ltA oA
    clear ltC oC
    clear fk fs
    have eT : U7 4 = _ := g24
    try simp only []
    try go_at_K
    repeat (first | go_values | go_skip | go_guarded | go_step | go_upon)
    refine bodyPost_ret (v := (.bool true)) (by simp [results, Try.results7, go_sem, eT]) rfl ?_
    exact ⟨rfl, hbw⟩
end Go.Proofs.Ytidpbdhhbeaijab
