/- The walk of suretylaw02.RatioRounds: it answers true at every input. -/
import Derived.Test.YtidpbdhhbeaijaaL0JRounds
import Derived.Test.YtidpbdhhbeaijaaSame2JRounds
import Derived.Test.YtidpbdhhbeaijaaQ8JRounds
namespace Go.Proofs.Ytidpbdhhbeaijaa
open Go.RowKit
theorem qcmp_z (vX vY : Value) (x1 y1 : Rat) (r : Int) (w : World) (hX : QV w vX x1) (hY : QV w vY y1) (hr : cmpQ x1 y1 = r) :
    Calls Try.prog 24 #[vX, vY] w fun e w' => e = .returned (.int .i64 r) ∧ Below w.heap.size w w' := by
  subst hr
  exact qcmp_any vX vY x1 y1 w hX hY
theorem rfloor_z (vX : Value) (q : Rat) (z : Int) (w : World) (hX : QRV w vX q 400) (hz' : q.floor = z) :
    Calls Try.prog 32 #[vX] w fun e w' => ∃ s a n c, e = .returned (.agg #[.bool s, .slice a n c]) ∧ RNum w' (.agg #[.bool s, .slice a n c]) z 830 ∧ Below w.heap.size w w' := by
  subst hz'
  exact rfloor_any vX q w hX
theorem floor_cmp (q : Rat) : ¬ 0 < cmpQ (q.floor : Rat) q := by
  rcases cmpQ_cases (q.floor : Rat) q with h | h | h
  · rw [h]; decide
  · rw [h]; decide
  · have k := (cmpQ_gt _ _).1 h
    exact absurd (Rat.floor_le q) (Rat.not_le.2 k)
theorem ceil_cmp (q : Rat) : ¬ cmpQ (q.ceil : Rat) q < 0 := by
  rcases cmpQ_cases (q.ceil : Rat) q with h | h | h
  · have k := (cmpQ_lt _ _).1 h
    exact absurd (Rat.le_ceil (x := q)) (Rat.not_le.2 k)
  · rw [h]; decide
  · rw [h]; decide
theorem whole_round {q : Rat} (h : q.den = 1) : q.floor = q.num ∧ q.ceil = q.num := by
  constructor
  · rw [Rat.floor_def, h]; simp
  · unfold Rat.ceil; rw [if_pos h]
theorem broken_round {q : Rat} (h : q.den ≠ 1) (hl : q.num.natAbs < lim) : q.ceil = q.floor + 1 ∧ (q.floor + 1).natAbs < lim := by
  refine ⟨?_, ?_⟩
  · rw [Rat.floor_def]; unfold Rat.ceil; rw [if_neg h]
  · have hd : (2 : Int) ≤ q.den := by have := q.den_nz; omega
    have hw := word_lim
    have e := floor_is q
    have e1 : q.num.fdiv q.den = q.num / (q.den : Int) := Int.fdiv_eq_ediv_of_nonneg _ (by omega)
    rw [← e, e1]
    have h1 := Int.mul_ediv_add_emod q.num q.den
    have h2 := Int.emod_nonneg q.num (b := (q.den : Int)) (by omega)
    have h3 := Int.emod_lt_of_pos q.num (b := (q.den : Int)) (by omega)
    generalize q.num / (q.den : Int) = f at h1
    generalize q.num % (q.den : Int) = r at h1 h2 h3
    generalize (q.den : Int) = d at h1 h3 hd
    generalize q.num = n at h1 hl
    rcases Int.lt_or_le f 0 with k | k
    · have : (d - 1) * (f + 1) ≤ 0 := Int.mul_nonpos_of_nonneg_of_nonpos (by omega) (by omega)
      have e2 : d * f = (d - 1) * (f + 1) + f - (d - 1) := by rw [Int.sub_mul, Int.mul_add, Int.mul_one, Int.one_mul]; omega
      omega
    · have : 2 * f ≤ d * f := Int.mul_le_mul_of_nonneg_right hd k
      omega

set_option maxRecDepth 20000 in
set_option maxHeartbeats 16000000 in
theorem ratioRounds_any (s : ByteArray) (w : World) (hs : s.size ≤ maxLen) :
    Calls Try.prog 6 #[.string s] w fun e w' => e = .returned (.bool true) ∧ Below w.heap.size w w' := by
  have hbw := Below.refl w.heap.size w
  go_enter Try.func6, Try.ntmps6
  go_wp2_with fail
  refine (awake2_any _).mono ?_
  rintro e w1 ⟨rfl, hb⟩
  replace hbw := hbw.step hb (Nat.le_refl _)
  clear hb
  go_wp2_with fail
  refine (rat_any s _ hs).mono ?_
  rintro e w2 ⟨q, xA, aA, nA, cA, yA, eA, mA, fA, xAr, aAr, nAr, cAr, yAr, eAr, mAr, fAr, rfl, hA, hAr, hb⟩
  replace hbw := hbw.step hb (Nat.le_refl _)
  clear hb
  have hn := below_new w2 (.cells #[.bool xA, .slice aA nA cA, .bool yA, .slice eA mA fA] 27 (0, 0))
  have oA := Blk.new w2 27 #[.bool xA, .slice aA nA cA, .bool yA, .slice eA mA fA]
  have lwA : w.heap.size ≤ w2.heap.size := hbw.size
  replace hA := hA.below hn
  replace hAr := hAr.below hn
  replace hbw := hbw.step hn (Nat.le_refl _)
  clear hn
  have ltA := oA.lt
  have hn := below_new (w2.alloc (.cells #[.bool xA, .slice aA nA cA, .bool yA, .slice eA mA fA] 27 (0, 0))) (.cells #[.bool xAr, .slice aAr nAr cAr, .bool yAr, .slice eAr mAr fAr] 35 (0, 0))
  have oAr := Blk.new (w2.alloc (.cells #[.bool xA, .slice aA nA cA, .bool yA, .slice eA mA fA] 27 (0, 0))) 35 #[.bool xAr, .slice aAr nAr cAr, .bool yAr, .slice eAr mAr fAr]
  simp only [World.size_alloc] at oAr
  have neAAr : w2.heap.size ≠ w2.heap.size + 1 := by have := ltA; simp at this; omega
  replace oA := oA.stay hn
  replace ltA := oA.lt
  replace hA := hA.below hn
  replace hAr := hAr.below hn
  replace hbw := hbw.step hn (Nat.le_refl _)
  clear hn
  have ltAr := oAr.lt
  obtain ⟨fl, HF⟩ : ∃ k, Hid (q.floor = k) := ⟨_, rfl⟩
  obtain ⟨cl, HL⟩ : ∃ k, Hid (q.ceil = k) := ⟨_, rfl⟩
  obtain ⟨r1, HR1⟩ : ∃ k, Hid (cmpQ (fl : Rat) q = k) := ⟨_, rfl⟩
  obtain ⟨r2, HR2⟩ : ∃ k, Hid (cmpQ (cl : Rat) q = k) := ⟨_, rfl⟩
  have HB1 : Hid (¬ 0 < r1) := by show ¬ _; rw [← HR1.out, ← HF.out]; exact floor_cmp q
  have HB2 : Hid (¬ r2 < 0) := by show ¬ _; rw [← HR2.out, ← HL.out]; exact ceil_cmp q
  have HZ : Hid _ := hA.lt
  go_wp2
  generalize ((w2.alloc (.cells #[.bool xA, .slice aA nA cA, .bool yA, .slice eA mA fA] 27 (0, 0))).alloc (.cells #[.bool xAr, .slice aAr nAr cAr, .bool yAr, .slice eAr mAr fAr] 35 (0, 0))) = W2 at hbw oA oAr ltA ltAr hA hAr ⊢
  refine wp_region_M (by kernel_rfl) [5, 6, 16, 17, 18, 19] [none, none, none, none, none, some 5, some 6, none, none, none, none, none, none, none, none, none, some 16, some 17, some 18, some 19] (fun U => by kernel_rfl) (fun L U wr => Below w.heap.size w wr ∧ KeepI W2 wr ∧ W2.heap.size ≤ wr.heap.size ∧ Blk 27 wr (w2.heap.size) #[.bool xA, .slice aA nA cA, .bool yA, .slice eA mA fA] ∧ Blk 35 wr (w2.heap.size + 1) #[.bool xAr, .slice aAr nAr cAr, .bool yAr, .slice eAr mAr fAr] ∧ (L 0 = true → IS (.agg #[.bool xA, .slice aA nA cA, .bool yA, .slice eA mA fA]) (U 16) wr) ∧ (L 1 = true → INT fl (U 17) wr) ∧ (L 2 = true → IS (.agg #[.bool xA, .slice aA nA cA, .bool yA, .slice eA mA fA]) (U 18) wr) ∧ (L 3 = true → INT cl (U 19) wr) ∧ (L 4 = true → NEW 25 W2.heap.size wr (U 5) (bif L 6 then U 17 else .agg #[.bool false, .slice none 0 0])) ∧ (L 5 = true → NEW 25 W2.heap.size wr (U 6) (bif L 7 then U 19 else .agg #[.bool false, .slice none 0 0])) ∧ (L 6 = true → L 1 = true) ∧ (L 7 = true → L 3 = true) ∧ (L 6 = true → L 4 = true) ∧ (L 7 = true → L 5 = true) ∧ (L 4 = true → L 5 = true → U 5 ≠ U 6)) (by kernel_rfl) ?_ ?_ ?_
  · exact fun U => ⟨hbw.drew, KeepI.below (Below.refl _ _).drew, Nat.le_refl _, oA.drew, oAr.drew, (fun h => by cases h), (fun h => by cases h), (fun h => by cases h), (fun h => by cases h), (fun h => by cases h), (fun h => by cases h), (fun h => by cases h), (fun h => by cases h), (fun h => by cases h), (fun h => by cases h), (fun h => by cases h)⟩
  · refine StepsU.run rfl ?_ ?_
    · intro L U wr hF hlk haf A K hA hK
      have HA : Hid (A = putAll _ _ U) := hA
      clear hA
      simp [Aft, Region.binds] at haf
      obtain ⟨fb, fk, fs, oA, oAr, f0, f1, f2, f3, f4, f5, s6, s7, m4, m5, d4_5⟩ := hF
      have e3 : A.tmps[3]? = some (.pointer (some ⟨w2.heap.size, 0, none⟩)) := by rw [HA.out]; kernel_rfl
      obtain ⟨c0, c1, c2, c3⟩ := oA.four
      refine ⟨?_⟩
      go_simp
      refine hK (upd U 16 (.agg #[.bool xA, .slice aA nA cA, .bool yA, .slice eA mA fA])) _ _ ?_ ?_
      · rw [HA.out]; kernel_rfl
      · exact ⟨fb, fk, fs, oA, oAr, (fun _ => rfl), f1, f2, f3, f4, f5, s6, s7, m4, m5, d4_5⟩
    refine StepsU.run rfl ?_ ?_
    · intro L U wr hF hlk haf A K hA hK
      have HA : Hid (A = putAll _ _ U) := hA
      clear hA
      simp [Aft, Region.binds] at haf
      obtain ⟨fb, fk, fs, oA, oAr, f0, f1, f2, f3, f4, f5, s6, s7, m4, m5, d4_5⟩ := hF
      have g0 := f0 (by simp [haf])
      have e16 := rd HA.out 16 (by kernel_rfl) g0
      refine ⟨?_⟩
      go_simp
      refine (floor_any _ q fl _ (hA.val.keepI fk) HF.out).mono ?_
      rintro e w1 ⟨u1, u2, u3, u4, rfl, hr, hb⟩
      go_simp
      have hs6 : L 6 = false := by cases h : L 6 with | false => rfl | true => rw [s6 h] at hlk; cases hlk
      refine hK (upd U 17 (.agg #[.bool u1, .slice u2 u3 u4])) _ _ ?_ ?_
      · rw [HA.out]; kernel_rfl
      · exact ⟨(fb.step hb (Nat.le_refl _)), (fk.trans (KeepI.below hb)), (Nat.le_trans fs hb.size), (oA.stay hb), (oAr.stay hb), (mv mo_is (KeepI.below hb) f0), (fun _ => hr), (mv mo_is (KeepI.below hb) f2), (mv mo_int (KeepI.below hb) f3), (fun h => flip_v (P := fun v => NEW _ _ _ _ v) hs6 ((fun h => (f4 h).below hb) h)), (fun h => (f5 h).below hb), (fun _ => rfl), s7, m4, m5, d4_5⟩
    refine StepsU.run rfl ?_ ?_
    · intro L U wr hF hlk haf A K hA hK
      have HA : Hid (A = putAll _ _ U) := hA
      clear hA
      simp [Aft, Region.binds] at haf
      obtain ⟨fb, fk, fs, oA, oAr, f0, f1, f2, f3, f4, f5, s6, s7, m4, m5, d4_5⟩ := hF
      have e3 : A.tmps[3]? = some (.pointer (some ⟨w2.heap.size, 0, none⟩)) := by rw [HA.out]; kernel_rfl
      obtain ⟨c0, c1, c2, c3⟩ := oA.four
      refine ⟨?_⟩
      go_simp
      refine hK (upd U 18 (.agg #[.bool xA, .slice aA nA cA, .bool yA, .slice eA mA fA])) _ _ ?_ ?_
      · rw [HA.out]; kernel_rfl
      · exact ⟨fb, fk, fs, oA, oAr, f0, f1, (fun _ => rfl), f3, f4, f5, s6, s7, m4, m5, d4_5⟩
    refine StepsU.run rfl ?_ ?_
    · intro L U wr hF hlk haf A K hA hK
      have HA : Hid (A = putAll _ _ U) := hA
      clear hA
      simp [Aft, Region.binds] at haf
      obtain ⟨fb, fk, fs, oA, oAr, f0, f1, f2, f3, f4, f5, s6, s7, m4, m5, d4_5⟩ := hF
      have g2 := f2 (by simp [haf])
      have e18 := rd HA.out 18 (by kernel_rfl) g2
      refine ⟨?_⟩
      go_simp
      refine (ceil_any _ q cl _ (hA.val.keepI fk) HL.out).mono ?_
      rintro e w1 ⟨u1, u2, u3, u4, rfl, hr, hb⟩
      go_simp
      have hs7 : L 7 = false := by cases h : L 7 with | false => rfl | true => rw [s7 h] at hlk; cases hlk
      refine hK (upd U 19 (.agg #[.bool u1, .slice u2 u3 u4])) _ _ ?_ ?_
      · rw [HA.out]; kernel_rfl
      · exact ⟨(fb.step hb (Nat.le_refl _)), (fk.trans (KeepI.below hb)), (Nat.le_trans fs hb.size), (oA.stay hb), (oAr.stay hb), (mv mo_is (KeepI.below hb) f0), (mv mo_int (KeepI.below hb) f1), (mv mo_is (KeepI.below hb) f2), (fun _ => hr), (fun h => (f4 h).below hb), (fun h => flip_v (P := fun v => NEW _ _ _ _ v) hs7 ((fun h => (f5 h).below hb) h)), s6, (fun _ => rfl), m4, m5, d4_5⟩
    refine StepsU.run rfl ?_ ?_
    · intro L U wr hF hlk haf A K hA hK
      have HA : Hid (A = putAll _ _ U) := hA
      clear hA
      simp [Aft, Region.binds] at haf
      obtain ⟨fb, fk, fs, oA, oAr, f0, f1, f2, f3, f4, f5, s6, s7, m4, m5, d4_5⟩ := hF
      have hst : L 6 = false := by cases h : L 6 with | false => rfl | true => rw [m4 h] at hlk; cases hlk
      refine ⟨?_⟩
      go_simp
      have hb := below_new wr (.cells #[.bool false, .slice none 0 0] 25 (0, 0))
      refine hK (upd U 5 (.pointer (some ⟨wr.heap.size, 0, none⟩))) _ _ ?_ ?_
      · rw [HA.out]; kernel_rfl
      · exact ⟨(fb.step hb (Nat.le_refl _)), (fk.trans (KeepI.below hb)), (Nat.le_trans fs hb.size), (oA.stay hb), (oAr.stay hb), (mv mo_is (KeepI.below hb) f0), (mv mo_int (KeepI.below hb) f1), (mv mo_is (KeepI.below hb) f2), (mv mo_int (KeepI.below hb) f3), (fun _ => new_zero hst (NEW.mk fs (noI2 _ _ _ _))), (fun h => (f5 h).below hb), s6, s7, (fun _ => rfl), m5, (fun _ h => (f5 h).apart.symm)⟩
    refine StepsU.run rfl ?_ ?_
    · intro L U wr hF hlk haf A K hA hK
      have HA : Hid (A = putAll _ _ U) := hA
      clear hA
      simp [Aft, Region.binds] at haf
      obtain ⟨fb, fk, fs, oA, oAr, f0, f1, f2, f3, f4, f5, s6, s7, m4, m5, d4_5⟩ := hF
      have hst : L 7 = false := by cases h : L 7 with | false => rfl | true => rw [m5 h] at hlk; cases hlk
      refine ⟨?_⟩
      go_simp
      have hb := below_new wr (.cells #[.bool false, .slice none 0 0] 25 (0, 0))
      refine hK (upd U 6 (.pointer (some ⟨wr.heap.size, 0, none⟩))) _ _ ?_ ?_
      · rw [HA.out]; kernel_rfl
      · exact ⟨(fb.step hb (Nat.le_refl _)), (fk.trans (KeepI.below hb)), (Nat.le_trans fs hb.size), (oA.stay hb), (oAr.stay hb), (mv mo_is (KeepI.below hb) f0), (mv mo_int (KeepI.below hb) f1), (mv mo_is (KeepI.below hb) f2), (mv mo_int (KeepI.below hb) f3), (fun h => (f4 h).below hb), (fun _ => new_zero hst (NEW.mk fs (noI2 _ _ _ _))), s6, s7, m4, (fun _ => rfl), (fun h _ => (f4 h).apart)⟩
    refine StepsU.run rfl ?_ ?_
    · intro L U wr hF hlk haf A K hA hK
      have HA : Hid (A = putAll _ _ U) := hA
      clear hA
      simp [Aft, Region.binds] at haf
      obtain ⟨fb, fk, fs, oA, oAr, f0, f1, f2, f3, f4, f5, s6, s7, m4, m5, d4_5⟩ := hF
      have g1 := f1 (by simp [haf])
      obtain ⟨px, pa, pn, pc, hsrc⟩ := AInt.shape g1
      have e17 := rd HA.out 17 (by kernel_rfl) hsrc
      have gA := f4 (by simp [haf])
      simp only [hlk, cond_false] at gA
      obtain ⟨b, cs, hp, hBb, hcs, hblk, -⟩ := gA
      injection hcs with hcs
      subst hcs
      have e5 := rd HA.out 5 (by kernel_rfl) hp
      obtain ⟨c0, c1, q0, q1⟩ := hblk.two
      refine ⟨?_⟩
      go_simp
      have hk := keepI_two hblk px pa pn pc
      refine hK U _ _ ?_ ?_
      · exact HA.out
      · exact ⟨(below_store2 fb (Nat.le_trans hbw.size hBb) _ _), (fk.trans hk), (by simpa using fs), (oA.other2 (Nat.ne_of_gt (Nat.lt_of_lt_of_le ltA hBb)) _ _), (oAr.other2 (Nat.ne_of_gt (Nat.lt_of_lt_of_le ltAr hBb)) _ _), (mv mo_is hk f0), (mv mo_int hk f1), (mv mo_is hk f2), (mv mo_int hk f3), (fun _ => stored_new hp hsrc (NEW.over2 hBb hblk px pa pn pc)), (fun h => (f5 h).other2 (fun ee => ((d4_5 (by simp [haf]) h).symm) (ee.trans hp.symm)) _ _), (fun _ => by simp [haf]), s7, (fun _ => by simp [haf]), m5, d4_5⟩
    refine StepsU.run rfl ?_ StepsU.nil
    · intro L U wr hF hlk haf A K hA hK
      have HA : Hid (A = putAll _ _ U) := hA
      clear hA
      simp [Aft, Region.binds] at haf
      obtain ⟨fb, fk, fs, oA, oAr, f0, f1, f2, f3, f4, f5, s6, s7, m4, m5, d4_5⟩ := hF
      have g3 := f3 (by simp [haf])
      obtain ⟨px, pa, pn, pc, hsrc⟩ := AInt.shape g3
      have e19 := rd HA.out 19 (by kernel_rfl) hsrc
      have gA := f5 (by simp [haf])
      simp only [hlk, cond_false] at gA
      obtain ⟨b, cs, hp, hBb, hcs, hblk, -⟩ := gA
      injection hcs with hcs
      subst hcs
      have e6 := rd HA.out 6 (by kernel_rfl) hp
      obtain ⟨c0, c1, q0, q1⟩ := hblk.two
      refine ⟨?_⟩
      go_simp
      have hk := keepI_two hblk px pa pn pc
      refine hK U _ _ ?_ ?_
      · exact HA.out
      · exact ⟨(below_store2 fb (Nat.le_trans hbw.size hBb) _ _), (fk.trans hk), (by simpa using fs), (oA.other2 (Nat.ne_of_gt (Nat.lt_of_lt_of_le ltA hBb)) _ _), (oAr.other2 (Nat.ne_of_gt (Nat.lt_of_lt_of_le ltAr hBb)) _ _), (mv mo_is hk f0), (mv mo_int hk f1), (mv mo_is hk f2), (mv mo_int hk f3), (fun h => (f4 h).other2 (fun ee => (d4_5 h (by simp [haf])) (ee.trans hp.symm)) _ _), (fun _ => stored_new hp hsrc (NEW.over2 hBb hblk px pa pn pc)), s6, (fun _ => by simp [haf]), m4, (fun _ => by simp [haf]), d4_5⟩
  intro L U3 V3 hall hF
  have hbw0 := hbw
  clear hbw
  obtain ⟨hbw, fk, fs, oA, oAr, f0, f1, f2, f3, f4, f5, s6, s7, m4, m5, d4_5⟩ := hF
  clear s6 s7 m4 m5
  have g0 := f0 (hall 0 (by decide))
  have g1 := f1 (hall 1 (by decide))
  have g2 := f2 (hall 2 (by decide))
  have g3 := f3 (hall 3 (by decide))
  have g4 := f4 (hall 4 (by decide))
  rw [hall 6 (by decide), cond_true] at g4
  have g5 := f5 (hall 5 (by decide))
  rw [hall 7 (by decide), cond_true] at g5
  replace d4_5 := d4_5 (hall 4 (by decide)) (hall 5 (by decide))
  clear hall f0 f1 f2 f3 f4 f5
  replace hA := hA.keepI fk
  replace hAr := hAr.keepI fk
  obtain ⟨bP, csP, hpP, lbP, hcsP, oP, -⟩ := g4
  obtain ⟨xP, aP, nP, cP, hvP⟩ := AInt.shape g1
  have hP : AInt _ _ _ := g1
  rw [hvP] at hP
  rw [hvP] at hcsP
  injection hcsP with hcsP
  subst hcsP
  have ltP := oP.lt
  obtain ⟨bQ, csQ, hpQ, lbQ, hcsQ, oQ, -⟩ := g5
  obtain ⟨xQ, aQ, nQ, cQ, hvQ⟩ := AInt.shape g3
  have hQ : AInt _ _ _ := g3
  rw [hvQ] at hQ
  rw [hvQ] at hcsQ
  injection hcsQ with hcsQ
  subst hcsQ
  have ltQ := oQ.lt
  have nePQ : bP ≠ bQ := fun h => d4_5 (by rw [hpP, hpQ, h])
  clear d4_5
  have neAP : w2.heap.size ≠ bP := Nat.ne_of_lt (Nat.lt_of_lt_of_le ltA lbP)
  have neArP : w2.heap.size + 1 ≠ bP := Nat.ne_of_lt (Nat.lt_of_lt_of_le ltAr lbP)
  have lwP : w.heap.size ≤ bP := Nat.le_trans hbw0.size lbP
  have neAQ : w2.heap.size ≠ bQ := Nat.ne_of_lt (Nat.lt_of_lt_of_le ltA lbQ)
  have neArQ : w2.heap.size + 1 ≠ bQ := Nat.ne_of_lt (Nat.lt_of_lt_of_le ltAr lbQ)
  have lwQ : w.heap.size ≤ bQ := Nat.le_trans hbw0.size lbQ
  clear lbP lbQ
  replace ltA := Nat.lt_of_lt_of_le ltA fs
  replace ltAr := Nat.lt_of_lt_of_le ltAr fs
  clear g0
  clear g1
  clear g2
  clear g3
  clear hbw0
  simp only [setM_some, setM_none, setM_nil]
  rw [hpP, hpQ]
  clear hpP hpQ hvP hvQ
  clear fk fs
  have HFL : Hid (fl.natAbs < lim) := hP.lt
  go_wp2
  refine wp_region_M (by kernel_rfl) [20, 21, 22, 23, 24, 25, 26, 27, 28, 29, 30, 31, 32, 33, 34, 35, 36, 37, 38, 39] [none, none, none, none, none, none, none, none, none, none, none, none, none, none, none, none, none, none, none, none, some 20, some 21, some 22, some 23, some 24, some 25, some 26, some 27, some 28, some 29, some 30, some 31, some 32, some 33, some 34, some 35, some 36, some 37, some 38, some 39] (fun U => by kernel_rfl) (fun L U wr => Below w.heap.size w wr ∧ KeepI V3 wr ∧ V3.heap.size ≤ wr.heap.size ∧ Blk 27 wr (w2.heap.size) #[.bool xA, .slice aA nA cA, .bool yA, .slice eA mA fA] ∧ Blk 35 wr (w2.heap.size + 1) #[.bool xAr, .slice aAr nAr cAr, .bool yAr, .slice eAr mAr fAr] ∧ Blk 25 wr (bP) #[.bool xP, .slice aP nP cP] ∧ Blk 25 wr (bQ) #[.bool xQ, .slice aQ nQ cQ] ∧ (L 0 = true → IS (.agg #[.bool xP, .slice aP nP cP]) (U 20) wr) ∧ (L 1 = true → TXT fl (U 21) wr) ∧ (L 2 = true → IS (.agg #[.bool xAr, .slice aAr nAr cAr, .bool yAr, .slice eAr mAr fAr]) (U 22) wr) ∧ (L 3 = true → RNM fl 830 (U 23) wr) ∧ (L 4 = true → TXT fl (U 24) wr) ∧ (L 5 = true → IS (.bool false) (U 25) wr) ∧ (L 6 = true → IS (.bool false) (U 26) wr) ∧ (L 7 = true → IS (.agg #[.bool xP, .slice aP nP cP]) (U 27) wr) ∧ (L 8 = true → RAT (fl : Rat) (U 28) wr) ∧ (L 9 = true → IS (.agg #[.bool xA, .slice aA nA cA, .bool yA, .slice eA mA fA]) (U 29) wr) ∧ (L 10 = true → IS (.int .i64 r1) (U 30) wr) ∧ (L 11 = true → IS (.bool false) (U 31) wr) ∧ (L 12 = true → IS (.bool false) (U 32) wr) ∧ (L 13 = true → IS (.bool false) (U 33) wr) ∧ (L 14 = true → IS (.agg #[.bool xQ, .slice aQ nQ cQ]) (U 34) wr) ∧ (L 15 = true → RAT (cl : Rat) (U 35) wr) ∧ (L 16 = true → IS (.agg #[.bool xA, .slice aA nA cA, .bool yA, .slice eA mA fA]) (U 36) wr) ∧ (L 17 = true → IS (.int .i64 r2) (U 37) wr) ∧ (L 18 = true → IS (.bool false) (U 38) wr) ∧ (L 19 = true → IS (.bool false) (U 39) wr)) (by kernel_rfl) ?_ ?_ ?_
  · exact fun U => ⟨hbw.drew, KeepI.below (Below.refl _ _).drew, Nat.le_refl _, oA.drew, oAr.drew, oP.drew, oQ.drew, (fun h => by cases h), (fun h => by cases h), (fun h => by cases h), (fun h => by cases h), (fun h => by cases h), (fun h => by cases h), (fun h => by cases h), (fun h => by cases h), (fun h => by cases h), (fun h => by cases h), (fun h => by cases h), (fun h => by cases h), (fun h => by cases h), (fun h => by cases h), (fun h => by cases h), (fun h => by cases h), (fun h => by cases h), (fun h => by cases h), (fun h => by cases h), (fun h => by cases h)⟩
  · refine StepsU.run rfl ?_ ?_
    · intro L U wr hF hlk haf A K hA hK
      have HA : Hid (A = putAll _ _ U) := hA
      clear hA
      simp [Aft, Region.binds] at haf
      obtain ⟨fb, fk, fs, oA, oAr, oP, oQ, f0, f1, f2, f3, f4, f5, f6, f7, f8, f9, f10, f11, f12, f13, f14, f15, f16, f17, f18, f19⟩ := hF
      have e5 : A.tmps[5]? = some (.pointer (some ⟨bP, 0, none⟩)) := by rw [HA.out]; kernel_rfl
      obtain ⟨c0, c1, -, -⟩ := oP.two
      refine ⟨?_⟩
      go_simp
      refine hK (upd U 20 (.agg #[.bool xP, .slice aP nP cP])) _ _ ?_ ?_
      · rw [HA.out]; kernel_rfl
      · exact ⟨fb, fk, fs, oA, oAr, oP, oQ, (fun _ => rfl), f1, f2, f3, f4, f5, f6, f7, f8, f9, f10, f11, f12, f13, f14, f15, f16, f17, f18, f19⟩
    refine StepsU.run rfl ?_ ?_
    · intro L U wr hF hlk haf A K hA hK
      have HA : Hid (A = putAll _ _ U) := hA
      clear hA
      simp [Aft, Region.binds] at haf
      obtain ⟨fb, fk, fs, oA, oAr, oP, oQ, f0, f1, f2, f3, f4, f5, f6, f7, f8, f9, f10, f11, f12, f13, f14, f15, f16, f17, f18, f19⟩ := hF
      have g0 := f0 (by simp [haf])
      have e20 := rd HA.out 20 (by kernel_rfl) g0
      refine ⟨?_⟩
      go_simp
      refine (text_a _ fl _ (hP.keepI fk)).mono ?_
      rintro e w1 ⟨S, rfl, hS, hb⟩
      go_simp
      refine hK (upd U 21 (.string S)) _ _ ?_ ?_
      · rw [HA.out]; kernel_rfl
      · exact ⟨(fb.step hb (Nat.le_refl _)), (fk.trans (KeepI.below hb)), (Nat.le_trans fs hb.size), (oA.stay hb), (oAr.stay hb), (oP.stay hb), (oQ.stay hb), (mv mo_is (KeepI.below hb) f0), (fun _ => ⟨S, rfl, hS⟩), (mv mo_is (KeepI.below hb) f2), (mv mo_rnm (KeepI.below hb) f3), (mv mo_txt (KeepI.below hb) f4), (mv mo_is (KeepI.below hb) f5), (mv mo_is (KeepI.below hb) f6), (mv mo_is (KeepI.below hb) f7), (mv mo_rat (KeepI.below hb) f8), (mv mo_is (KeepI.below hb) f9), (mv mo_is (KeepI.below hb) f10), (mv mo_is (KeepI.below hb) f11), (mv mo_is (KeepI.below hb) f12), (mv mo_is (KeepI.below hb) f13), (mv mo_is (KeepI.below hb) f14), (mv mo_rat (KeepI.below hb) f15), (mv mo_is (KeepI.below hb) f16), (mv mo_is (KeepI.below hb) f17), (mv mo_is (KeepI.below hb) f18), (mv mo_is (KeepI.below hb) f19)⟩
    refine StepsU.run rfl ?_ ?_
    · intro L U wr hF hlk haf A K hA hK
      have HA : Hid (A = putAll _ _ U) := hA
      clear hA
      simp [Aft, Region.binds] at haf
      obtain ⟨fb, fk, fs, oA, oAr, oP, oQ, f0, f1, f2, f3, f4, f5, f6, f7, f8, f9, f10, f11, f12, f13, f14, f15, f16, f17, f18, f19⟩ := hF
      have e4 : A.tmps[4]? = some (.pointer (some ⟨w2.heap.size + 1, 0, none⟩)) := by rw [HA.out]; kernel_rfl
      obtain ⟨c0, c1, c2, c3⟩ := oAr.four
      refine ⟨?_⟩
      go_simp
      refine hK (upd U 22 (.agg #[.bool xAr, .slice aAr nAr cAr, .bool yAr, .slice eAr mAr fAr])) _ _ ?_ ?_
      · rw [HA.out]; kernel_rfl
      · exact ⟨fb, fk, fs, oA, oAr, oP, oQ, f0, f1, (fun _ => rfl), f3, f4, f5, f6, f7, f8, f9, f10, f11, f12, f13, f14, f15, f16, f17, f18, f19⟩
    refine StepsU.run rfl ?_ ?_
    · intro L U wr hF hlk haf A K hA hK
      have HA : Hid (A = putAll _ _ U) := hA
      clear hA
      simp [Aft, Region.binds] at haf
      obtain ⟨fb, fk, fs, oA, oAr, oP, oQ, f0, f1, f2, f3, f4, f5, f6, f7, f8, f9, f10, f11, f12, f13, f14, f15, f16, f17, f18, f19⟩ := hF
      have g2 := f2 (by simp [haf])
      have e22 := rd HA.out 22 (by kernel_rfl) g2
      refine ⟨?_⟩
      go_simp
      refine (rfloor_z _ q fl _ (hAr.val.keepI fk) HF.out).mono ?_
      rintro e w1 ⟨u1, u2, u3, u4, rfl, hr, hb⟩
      go_simp
      refine hK (upd U 23 (.agg #[.bool u1, .slice u2 u3 u4])) _ _ ?_ ?_
      · rw [HA.out]; kernel_rfl
      · exact ⟨(fb.step hb (Nat.le_refl _)), (fk.trans (KeepI.below hb)), (Nat.le_trans fs hb.size), (oA.stay hb), (oAr.stay hb), (oP.stay hb), (oQ.stay hb), (mv mo_is (KeepI.below hb) f0), (mv mo_txt (KeepI.below hb) f1), (mv mo_is (KeepI.below hb) f2), (fun _ => hr), (mv mo_txt (KeepI.below hb) f4), (mv mo_is (KeepI.below hb) f5), (mv mo_is (KeepI.below hb) f6), (mv mo_is (KeepI.below hb) f7), (mv mo_rat (KeepI.below hb) f8), (mv mo_is (KeepI.below hb) f9), (mv mo_is (KeepI.below hb) f10), (mv mo_is (KeepI.below hb) f11), (mv mo_is (KeepI.below hb) f12), (mv mo_is (KeepI.below hb) f13), (mv mo_is (KeepI.below hb) f14), (mv mo_rat (KeepI.below hb) f15), (mv mo_is (KeepI.below hb) f16), (mv mo_is (KeepI.below hb) f17), (mv mo_is (KeepI.below hb) f18), (mv mo_is (KeepI.below hb) f19)⟩
    refine StepsU.run rfl ?_ ?_
    · intro L U wr hF hlk haf A K hA hK
      have HA : Hid (A = putAll _ _ U) := hA
      clear hA
      simp [Aft, Region.binds] at haf
      obtain ⟨fb, fk, fs, oA, oAr, oP, oQ, f0, f1, f2, f3, f4, f5, f6, f7, f8, f9, f10, f11, f12, f13, f14, f15, f16, f17, f18, f19⟩ := hF
      have g3 := f3 (by simp [haf])
      have e23 := rd HA.out 23 (by kernel_rfl) rfl
      refine ⟨?_⟩
      go_simp
      refine (show_a _ fl 830 _ g3 (by decide)).mono ?_
      rintro e w1 ⟨S, rfl, hS, hb⟩
      go_simp
      refine hK (upd U 24 (.string S)) _ _ ?_ ?_
      · rw [HA.out]; kernel_rfl
      · exact ⟨(fb.step hb (Nat.le_refl _)), (fk.trans (KeepI.below hb)), (Nat.le_trans fs hb.size), (oA.stay hb), (oAr.stay hb), (oP.stay hb), (oQ.stay hb), (mv mo_is (KeepI.below hb) f0), (mv mo_txt (KeepI.below hb) f1), (mv mo_is (KeepI.below hb) f2), (mv mo_rnm (KeepI.below hb) f3), (fun _ => ⟨S, rfl, hS⟩), (mv mo_is (KeepI.below hb) f5), (mv mo_is (KeepI.below hb) f6), (mv mo_is (KeepI.below hb) f7), (mv mo_rat (KeepI.below hb) f8), (mv mo_is (KeepI.below hb) f9), (mv mo_is (KeepI.below hb) f10), (mv mo_is (KeepI.below hb) f11), (mv mo_is (KeepI.below hb) f12), (mv mo_is (KeepI.below hb) f13), (mv mo_is (KeepI.below hb) f14), (mv mo_rat (KeepI.below hb) f15), (mv mo_is (KeepI.below hb) f16), (mv mo_is (KeepI.below hb) f17), (mv mo_is (KeepI.below hb) f18), (mv mo_is (KeepI.below hb) f19)⟩
    refine StepsU.run rfl ?_ ?_
    · intro L U wr hF hlk haf A K hA hK
      have HA : Hid (A = putAll _ _ U) := hA
      clear hA
      simp [Aft, Region.binds] at haf
      obtain ⟨fb, fk, fs, oA, oAr, oP, oQ, f0, f1, f2, f3, f4, f5, f6, f7, f8, f9, f10, f11, f12, f13, f14, f15, f16, f17, f18, f19⟩ := hF
      have g1 := f1 (by simp [haf])
      have g4 := f4 (by simp [haf])
      obtain ⟨S, hS, hT⟩ := g1
      obtain ⟨S2, hS2, hT2⟩ := g4
      have tt : (S.toList == S2.toList) = true := by rw [hT.same hT2]; simp
      have tt2 : (S.toList != S2.toList) = false := by simp [bne, tt]
      have e21 := rd HA.out 21 (by kernel_rfl) hS
      have e24 := rd HA.out 24 (by kernel_rfl) hS2
      refine ⟨?_⟩
      go_simp
      refine hK (upd U 25 (.bool false)) _ _ ?_ ?_
      · rw [HA.out]; kernel_rfl
      · exact ⟨fb, fk, fs, oA, oAr, oP, oQ, f0, f1, f2, f3, f4, (fun _ => rfl), f6, f7, f8, f9, f10, f11, f12, f13, f14, f15, f16, f17, f18, f19⟩
    refine StepsU.run rfl ?_ ?_
    · intro L U wr hF hlk haf A K hA hK
      have HA : Hid (A = putAll _ _ U) := hA
      clear hA
      simp [Aft, Region.binds] at haf
      obtain ⟨fb, fk, fs, oA, oAr, oP, oQ, f0, f1, f2, f3, f4, f5, f6, f7, f8, f9, f10, f11, f12, f13, f14, f15, f16, f17, f18, f19⟩ := hF
      have g5 := f5 (by simp [haf])
      have e25 := rd HA.out 25 (by kernel_rfl) rfl
      refine ⟨?_⟩
      go_simp
      refine hK (upd U 26 (U 25)) _ _ ?_ ?_
      · rw [HA.out]; kernel_rfl
      · exact ⟨fb, fk, fs, oA, oAr, oP, oQ, f0, f1, f2, f3, f4, f5, (fun _ => g5), f7, f8, f9, f10, f11, f12, f13, f14, f15, f16, f17, f18, f19⟩
    refine StepsU.cond ?_ ?_
    · intro L U wr hF hlk haf A K hA hK
      have HA : Hid (A = putAll _ _ U) := hA
      clear hA
      simp [Aft, Region.binds] at haf
      obtain ⟨fb, fk, fs, oA, oAr, oP, oQ, f0, f1, f2, f3, f4, f5, f6, f7, f8, f9, f10, f11, f12, f13, f14, f15, f16, f17, f18, f19⟩ := hF
      have gg := f6 (by simp [haf])
      have ee := rd HA.out 26 (by kernel_rfl) gg
      refine ⟨?_⟩
      rw [if_pos (by simp [Region.wanted, yielded, ee])]
      refine Gate.out ?_
      clear gg ee
      have e5 : A.tmps[5]? = some (.pointer (some ⟨bP, 0, none⟩)) := by rw [HA.out]; kernel_rfl
      obtain ⟨c0, c1, -, -⟩ := oP.two
      refine ⟨?_⟩
      go_simp
      refine hK (upd U 27 (.agg #[.bool xP, .slice aP nP cP])) _ _ ?_ ?_
      · rw [HA.out]; kernel_rfl
      · exact ⟨fb, fk, fs, oA, oAr, oP, oQ, f0, f1, f2, f3, f4, f5, f6, (fun _ => rfl), f8, f9, f10, f11, f12, f13, f14, f15, f16, f17, f18, f19⟩
    refine StepsU.cond ?_ ?_
    · intro L U wr hF hlk haf A K hA hK
      have HA : Hid (A = putAll _ _ U) := hA
      clear hA
      simp [Aft, Region.binds] at haf
      obtain ⟨fb, fk, fs, oA, oAr, oP, oQ, f0, f1, f2, f3, f4, f5, f6, f7, f8, f9, f10, f11, f12, f13, f14, f15, f16, f17, f18, f19⟩ := hF
      have gg := f6 (by simp [haf])
      have ee := rd HA.out 26 (by kernel_rfl) gg
      refine ⟨?_⟩
      rw [if_pos (by simp [Region.wanted, yielded, ee])]
      refine Gate.out ?_
      clear gg ee
      have g7 := f7 (by simp [haf])
      have e27 := rd HA.out 27 (by kernel_rfl) g7
      refine ⟨?_⟩
      go_simp
      refine (whole_any _ fl _ (hP.keepI fk)).mono ?_
      rintro e w1 ⟨z1, z2, z3, z4, z5, z6, z7, z8, rfl, hr, hb⟩
      go_simp
      refine hK (upd U 28 (.agg #[.bool z1, .slice z2 z3 z4, .bool z5, .slice z6 z7 z8])) _ _ ?_ ?_
      · rw [HA.out]; kernel_rfl
      · exact ⟨(fb.step hb (Nat.le_refl _)), (fk.trans (KeepI.below hb)), (Nat.le_trans fs hb.size), (oA.stay hb), (oAr.stay hb), (oP.stay hb), (oQ.stay hb), (mv mo_is (KeepI.below hb) f0), (mv mo_txt (KeepI.below hb) f1), (mv mo_is (KeepI.below hb) f2), (mv mo_rnm (KeepI.below hb) f3), (mv mo_txt (KeepI.below hb) f4), (mv mo_is (KeepI.below hb) f5), (mv mo_is (KeepI.below hb) f6), (mv mo_is (KeepI.below hb) f7), (fun _ => hr.val), (mv mo_is (KeepI.below hb) f9), (mv mo_is (KeepI.below hb) f10), (mv mo_is (KeepI.below hb) f11), (mv mo_is (KeepI.below hb) f12), (mv mo_is (KeepI.below hb) f13), (mv mo_is (KeepI.below hb) f14), (mv mo_rat (KeepI.below hb) f15), (mv mo_is (KeepI.below hb) f16), (mv mo_is (KeepI.below hb) f17), (mv mo_is (KeepI.below hb) f18), (mv mo_is (KeepI.below hb) f19)⟩
    refine StepsU.cond ?_ ?_
    · intro L U wr hF hlk haf A K hA hK
      have HA : Hid (A = putAll _ _ U) := hA
      clear hA
      simp [Aft, Region.binds] at haf
      obtain ⟨fb, fk, fs, oA, oAr, oP, oQ, f0, f1, f2, f3, f4, f5, f6, f7, f8, f9, f10, f11, f12, f13, f14, f15, f16, f17, f18, f19⟩ := hF
      have gg := f6 (by simp [haf])
      have ee := rd HA.out 26 (by kernel_rfl) gg
      refine ⟨?_⟩
      rw [if_pos (by simp [Region.wanted, yielded, ee])]
      refine Gate.out ?_
      clear gg ee
      have e3 : A.tmps[3]? = some (.pointer (some ⟨w2.heap.size, 0, none⟩)) := by rw [HA.out]; kernel_rfl
      obtain ⟨c0, c1, c2, c3⟩ := oA.four
      refine ⟨?_⟩
      go_simp
      refine hK (upd U 29 (.agg #[.bool xA, .slice aA nA cA, .bool yA, .slice eA mA fA])) _ _ ?_ ?_
      · rw [HA.out]; kernel_rfl
      · exact ⟨fb, fk, fs, oA, oAr, oP, oQ, f0, f1, f2, f3, f4, f5, f6, f7, f8, (fun _ => rfl), f10, f11, f12, f13, f14, f15, f16, f17, f18, f19⟩
    refine StepsU.cond ?_ ?_
    · intro L U wr hF hlk haf A K hA hK
      have HA : Hid (A = putAll _ _ U) := hA
      clear hA
      simp [Aft, Region.binds] at haf
      obtain ⟨fb, fk, fs, oA, oAr, oP, oQ, f0, f1, f2, f3, f4, f5, f6, f7, f8, f9, f10, f11, f12, f13, f14, f15, f16, f17, f18, f19⟩ := hF
      have gg := f6 (by simp [haf])
      have ee := rd HA.out 26 (by kernel_rfl) gg
      refine ⟨?_⟩
      rw [if_pos (by simp [Region.wanted, yielded, ee])]
      refine Gate.out ?_
      clear gg ee
      have g8 := f8 (by simp [haf])
      have e28 := rd HA.out 28 (by kernel_rfl) rfl
      have g9 := f9 (by simp [haf])
      have e29 := rd HA.out 29 (by kernel_rfl) g9
      refine ⟨?_⟩
      go_simp
      refine (qcmp_z _ _ (fl : Rat) q r1 _ g8 (hA.val.keepI fk) HR1.out).mono ?_
      rintro e w1 ⟨rfl, hb⟩
      go_simp
      refine hK (upd U 30 (.int .i64 r1)) _ _ ?_ ?_
      · rw [HA.out]; kernel_rfl
      · exact ⟨(fb.step hb (Nat.le_refl _)), (fk.trans (KeepI.below hb)), (Nat.le_trans fs hb.size), (oA.stay hb), (oAr.stay hb), (oP.stay hb), (oQ.stay hb), (mv mo_is (KeepI.below hb) f0), (mv mo_txt (KeepI.below hb) f1), (mv mo_is (KeepI.below hb) f2), (mv mo_rnm (KeepI.below hb) f3), (mv mo_txt (KeepI.below hb) f4), (mv mo_is (KeepI.below hb) f5), (mv mo_is (KeepI.below hb) f6), (mv mo_is (KeepI.below hb) f7), (mv mo_rat (KeepI.below hb) f8), (mv mo_is (KeepI.below hb) f9), (fun _ => rfl), (mv mo_is (KeepI.below hb) f11), (mv mo_is (KeepI.below hb) f12), (mv mo_is (KeepI.below hb) f13), (mv mo_is (KeepI.below hb) f14), (mv mo_rat (KeepI.below hb) f15), (mv mo_is (KeepI.below hb) f16), (mv mo_is (KeepI.below hb) f17), (mv mo_is (KeepI.below hb) f18), (mv mo_is (KeepI.below hb) f19)⟩
    refine StepsU.cond ?_ ?_
    · intro L U wr hF hlk haf A K hA hK
      have HA : Hid (A = putAll _ _ U) := hA
      clear hA
      simp [Aft, Region.binds] at haf
      obtain ⟨fb, fk, fs, oA, oAr, oP, oQ, f0, f1, f2, f3, f4, f5, f6, f7, f8, f9, f10, f11, f12, f13, f14, f15, f16, f17, f18, f19⟩ := hF
      have gg := f6 (by simp [haf])
      have ee := rd HA.out 26 (by kernel_rfl) gg
      refine ⟨?_⟩
      rw [if_pos (by simp [Region.wanted, yielded, ee])]
      refine Gate.out ?_
      clear gg ee
      have g10 := f10 (by simp [haf])
      have ee : decide (0 < r1) = false := decide_eq_false (by have := HB1.out; omega)
      have e30 := rd HA.out 30 (by kernel_rfl) g10
      refine ⟨?_⟩
      go_simp
      refine hK (upd U 31 (.bool false)) _ _ ?_ ?_
      · rw [HA.out]; kernel_rfl
      · exact ⟨fb, fk, fs, oA, oAr, oP, oQ, f0, f1, f2, f3, f4, f5, f6, f7, f8, f9, f10, (fun _ => rfl), f12, f13, f14, f15, f16, f17, f18, f19⟩
    refine StepsU.run rfl ?_ ?_
    · intro L U wr hF hlk haf A K hA hK
      have HA : Hid (A = putAll _ _ U) := hA
      clear hA
      simp [Aft, Region.binds] at haf
      obtain ⟨fb, fk, fs, oA, oAr, oP, oQ, f0, f1, f2, f3, f4, f5, f6, f7, f8, f9, f10, f11, f12, f13, f14, f15, f16, f17, f18, f19⟩ := hF
      have g6 := f6 (by simp [haf])
      have g11 := f11 (by simp [haf])
      have e26 := rd HA.out 26 (by kernel_rfl) g6
      have e31 := rd HA.out 31 (by kernel_rfl) g11
      refine ⟨?_⟩
      go_simp
      refine hK (upd U 32 (.bool false)) _ _ ?_ ?_
      · rw [HA.out]; kernel_rfl
      · exact ⟨fb, fk, fs, oA, oAr, oP, oQ, f0, f1, f2, f3, f4, f5, f6, f7, f8, f9, f10, f11, (fun _ => rfl), f13, f14, f15, f16, f17, f18, f19⟩
    refine StepsU.run rfl ?_ ?_
    · intro L U wr hF hlk haf A K hA hK
      have HA : Hid (A = putAll _ _ U) := hA
      clear hA
      simp [Aft, Region.binds] at haf
      obtain ⟨fb, fk, fs, oA, oAr, oP, oQ, f0, f1, f2, f3, f4, f5, f6, f7, f8, f9, f10, f11, f12, f13, f14, f15, f16, f17, f18, f19⟩ := hF
      have g12 := f12 (by simp [haf])
      have e32 := rd HA.out 32 (by kernel_rfl) rfl
      refine ⟨?_⟩
      go_simp
      refine hK (upd U 33 (U 32)) _ _ ?_ ?_
      · rw [HA.out]; kernel_rfl
      · exact ⟨fb, fk, fs, oA, oAr, oP, oQ, f0, f1, f2, f3, f4, f5, f6, f7, f8, f9, f10, f11, f12, (fun _ => g12), f14, f15, f16, f17, f18, f19⟩
    refine StepsU.cond ?_ ?_
    · intro L U wr hF hlk haf A K hA hK
      have HA : Hid (A = putAll _ _ U) := hA
      clear hA
      simp [Aft, Region.binds] at haf
      obtain ⟨fb, fk, fs, oA, oAr, oP, oQ, f0, f1, f2, f3, f4, f5, f6, f7, f8, f9, f10, f11, f12, f13, f14, f15, f16, f17, f18, f19⟩ := hF
      have gg := f13 (by simp [haf])
      have ee := rd HA.out 33 (by kernel_rfl) gg
      refine ⟨?_⟩
      rw [if_pos (by simp [Region.wanted, yielded, ee])]
      refine Gate.out ?_
      clear gg ee
      have e6 : A.tmps[6]? = some (.pointer (some ⟨bQ, 0, none⟩)) := by rw [HA.out]; kernel_rfl
      obtain ⟨c0, c1, -, -⟩ := oQ.two
      refine ⟨?_⟩
      go_simp
      refine hK (upd U 34 (.agg #[.bool xQ, .slice aQ nQ cQ])) _ _ ?_ ?_
      · rw [HA.out]; kernel_rfl
      · exact ⟨fb, fk, fs, oA, oAr, oP, oQ, f0, f1, f2, f3, f4, f5, f6, f7, f8, f9, f10, f11, f12, f13, (fun _ => rfl), f15, f16, f17, f18, f19⟩
    refine StepsU.cond ?_ ?_
    · intro L U wr hF hlk haf A K hA hK
      have HA : Hid (A = putAll _ _ U) := hA
      clear hA
      simp [Aft, Region.binds] at haf
      obtain ⟨fb, fk, fs, oA, oAr, oP, oQ, f0, f1, f2, f3, f4, f5, f6, f7, f8, f9, f10, f11, f12, f13, f14, f15, f16, f17, f18, f19⟩ := hF
      have gg := f13 (by simp [haf])
      have ee := rd HA.out 33 (by kernel_rfl) gg
      refine ⟨?_⟩
      rw [if_pos (by simp [Region.wanted, yielded, ee])]
      refine Gate.out ?_
      clear gg ee
      have g14 := f14 (by simp [haf])
      have e34 := rd HA.out 34 (by kernel_rfl) g14
      refine ⟨?_⟩
      go_simp
      refine (whole_any _ cl _ (hQ.keepI fk)).mono ?_
      rintro e w1 ⟨z1, z2, z3, z4, z5, z6, z7, z8, rfl, hr, hb⟩
      go_simp
      refine hK (upd U 35 (.agg #[.bool z1, .slice z2 z3 z4, .bool z5, .slice z6 z7 z8])) _ _ ?_ ?_
      · rw [HA.out]; kernel_rfl
      · exact ⟨(fb.step hb (Nat.le_refl _)), (fk.trans (KeepI.below hb)), (Nat.le_trans fs hb.size), (oA.stay hb), (oAr.stay hb), (oP.stay hb), (oQ.stay hb), (mv mo_is (KeepI.below hb) f0), (mv mo_txt (KeepI.below hb) f1), (mv mo_is (KeepI.below hb) f2), (mv mo_rnm (KeepI.below hb) f3), (mv mo_txt (KeepI.below hb) f4), (mv mo_is (KeepI.below hb) f5), (mv mo_is (KeepI.below hb) f6), (mv mo_is (KeepI.below hb) f7), (mv mo_rat (KeepI.below hb) f8), (mv mo_is (KeepI.below hb) f9), (mv mo_is (KeepI.below hb) f10), (mv mo_is (KeepI.below hb) f11), (mv mo_is (KeepI.below hb) f12), (mv mo_is (KeepI.below hb) f13), (mv mo_is (KeepI.below hb) f14), (fun _ => hr.val), (mv mo_is (KeepI.below hb) f16), (mv mo_is (KeepI.below hb) f17), (mv mo_is (KeepI.below hb) f18), (mv mo_is (KeepI.below hb) f19)⟩
    refine StepsU.cond ?_ ?_
    · intro L U wr hF hlk haf A K hA hK
      have HA : Hid (A = putAll _ _ U) := hA
      clear hA
      simp [Aft, Region.binds] at haf
      obtain ⟨fb, fk, fs, oA, oAr, oP, oQ, f0, f1, f2, f3, f4, f5, f6, f7, f8, f9, f10, f11, f12, f13, f14, f15, f16, f17, f18, f19⟩ := hF
      have gg := f13 (by simp [haf])
      have ee := rd HA.out 33 (by kernel_rfl) gg
      refine ⟨?_⟩
      rw [if_pos (by simp [Region.wanted, yielded, ee])]
      refine Gate.out ?_
      clear gg ee
      have e3 : A.tmps[3]? = some (.pointer (some ⟨w2.heap.size, 0, none⟩)) := by rw [HA.out]; kernel_rfl
      obtain ⟨c0, c1, c2, c3⟩ := oA.four
      refine ⟨?_⟩
      go_simp
      refine hK (upd U 36 (.agg #[.bool xA, .slice aA nA cA, .bool yA, .slice eA mA fA])) _ _ ?_ ?_
      · rw [HA.out]; kernel_rfl
      · exact ⟨fb, fk, fs, oA, oAr, oP, oQ, f0, f1, f2, f3, f4, f5, f6, f7, f8, f9, f10, f11, f12, f13, f14, f15, (fun _ => rfl), f17, f18, f19⟩
    refine StepsU.cond ?_ ?_
    · intro L U wr hF hlk haf A K hA hK
      have HA : Hid (A = putAll _ _ U) := hA
      clear hA
      simp [Aft, Region.binds] at haf
      obtain ⟨fb, fk, fs, oA, oAr, oP, oQ, f0, f1, f2, f3, f4, f5, f6, f7, f8, f9, f10, f11, f12, f13, f14, f15, f16, f17, f18, f19⟩ := hF
      have gg := f13 (by simp [haf])
      have ee := rd HA.out 33 (by kernel_rfl) gg
      refine ⟨?_⟩
      rw [if_pos (by simp [Region.wanted, yielded, ee])]
      refine Gate.out ?_
      clear gg ee
      have g15 := f15 (by simp [haf])
      have e35 := rd HA.out 35 (by kernel_rfl) rfl
      have g16 := f16 (by simp [haf])
      have e36 := rd HA.out 36 (by kernel_rfl) g16
      refine ⟨?_⟩
      go_simp
      refine (qcmp_z _ _ (cl : Rat) q r2 _ g15 (hA.val.keepI fk) HR2.out).mono ?_
      rintro e w1 ⟨rfl, hb⟩
      go_simp
      refine hK (upd U 37 (.int .i64 r2)) _ _ ?_ ?_
      · rw [HA.out]; kernel_rfl
      · exact ⟨(fb.step hb (Nat.le_refl _)), (fk.trans (KeepI.below hb)), (Nat.le_trans fs hb.size), (oA.stay hb), (oAr.stay hb), (oP.stay hb), (oQ.stay hb), (mv mo_is (KeepI.below hb) f0), (mv mo_txt (KeepI.below hb) f1), (mv mo_is (KeepI.below hb) f2), (mv mo_rnm (KeepI.below hb) f3), (mv mo_txt (KeepI.below hb) f4), (mv mo_is (KeepI.below hb) f5), (mv mo_is (KeepI.below hb) f6), (mv mo_is (KeepI.below hb) f7), (mv mo_rat (KeepI.below hb) f8), (mv mo_is (KeepI.below hb) f9), (mv mo_is (KeepI.below hb) f10), (mv mo_is (KeepI.below hb) f11), (mv mo_is (KeepI.below hb) f12), (mv mo_is (KeepI.below hb) f13), (mv mo_is (KeepI.below hb) f14), (mv mo_rat (KeepI.below hb) f15), (mv mo_is (KeepI.below hb) f16), (fun _ => rfl), (mv mo_is (KeepI.below hb) f18), (mv mo_is (KeepI.below hb) f19)⟩
    refine StepsU.cond ?_ ?_
    · intro L U wr hF hlk haf A K hA hK
      have HA : Hid (A = putAll _ _ U) := hA
      clear hA
      simp [Aft, Region.binds] at haf
      obtain ⟨fb, fk, fs, oA, oAr, oP, oQ, f0, f1, f2, f3, f4, f5, f6, f7, f8, f9, f10, f11, f12, f13, f14, f15, f16, f17, f18, f19⟩ := hF
      have gg := f13 (by simp [haf])
      have ee := rd HA.out 33 (by kernel_rfl) gg
      refine ⟨?_⟩
      rw [if_pos (by simp [Region.wanted, yielded, ee])]
      refine Gate.out ?_
      clear gg ee
      have g17 := f17 (by simp [haf])
      have ee : decide (r2 < 0) = false := decide_eq_false (by have := HB2.out; omega)
      have e37 := rd HA.out 37 (by kernel_rfl) g17
      refine ⟨?_⟩
      go_simp
      refine hK (upd U 38 (.bool false)) _ _ ?_ ?_
      · rw [HA.out]; kernel_rfl
      · exact ⟨fb, fk, fs, oA, oAr, oP, oQ, f0, f1, f2, f3, f4, f5, f6, f7, f8, f9, f10, f11, f12, f13, f14, f15, f16, f17, (fun _ => rfl), f19⟩
    refine StepsU.run rfl ?_ StepsU.nil
    · intro L U wr hF hlk haf A K hA hK
      have HA : Hid (A = putAll _ _ U) := hA
      clear hA
      simp [Aft, Region.binds] at haf
      obtain ⟨fb, fk, fs, oA, oAr, oP, oQ, f0, f1, f2, f3, f4, f5, f6, f7, f8, f9, f10, f11, f12, f13, f14, f15, f16, f17, f18, f19⟩ := hF
      have g13 := f13 (by simp [haf])
      have g18 := f18 (by simp [haf])
      have e33 := rd HA.out 33 (by kernel_rfl) g13
      have e38 := rd HA.out 38 (by kernel_rfl) g18
      refine ⟨?_⟩
      go_simp
      refine hK (upd U 39 (.bool false)) _ _ ?_ ?_
      · rw [HA.out]; kernel_rfl
      · exact ⟨fb, fk, fs, oA, oAr, oP, oQ, f0, f1, f2, f3, f4, f5, f6, f7, f8, f9, f10, f11, f12, f13, f14, f15, f16, f17, f18, (fun _ => rfl)⟩
  intro L U4 V4 hall hF
  have hbw0 := hbw
  clear hbw
  obtain ⟨hbw, fk, fs, oA, oAr, oP, oQ, f0, f1, f2, f3, f4, f5, f6, f7, f8, f9, f10, f11, f12, f13, f14, f15, f16, f17, f18, f19⟩ := hF
  have g0 := f0 (hall 0 (by decide))
  have g1 := f1 (hall 1 (by decide))
  have g2 := f2 (hall 2 (by decide))
  have g3 := f3 (hall 3 (by decide))
  have g4 := f4 (hall 4 (by decide))
  have g5 := f5 (hall 5 (by decide))
  have g6 := f6 (hall 6 (by decide))
  have g7 := f7 (hall 7 (by decide))
  have g8 := f8 (hall 8 (by decide))
  have g9 := f9 (hall 9 (by decide))
  have g10 := f10 (hall 10 (by decide))
  have g11 := f11 (hall 11 (by decide))
  have g12 := f12 (hall 12 (by decide))
  have g13 := f13 (hall 13 (by decide))
  have g14 := f14 (hall 14 (by decide))
  have g15 := f15 (hall 15 (by decide))
  have g16 := f16 (hall 16 (by decide))
  have g17 := f17 (hall 17 (by decide))
  have g18 := f18 (hall 18 (by decide))
  have g19 := f19 (hall 19 (by decide))
  clear hall f0 f1 f2 f3 f4 f5 f6 f7 f8 f9 f10 f11 f12 f13 f14 f15 f16 f17 f18 f19
  replace hA := hA.keepI fk
  replace hAr := hAr.keepI fk
  replace hP := hP.keepI fk
  replace hQ := hQ.keepI fk
  replace ltA := Nat.lt_of_lt_of_le ltA fs
  replace ltAr := Nat.lt_of_lt_of_le ltAr fs
  replace ltP := Nat.lt_of_lt_of_le ltP fs
  replace ltQ := Nat.lt_of_lt_of_le ltQ fs
  clear g0
  clear g1
  clear g2
  clear g3
  clear g4
  clear g5
  clear g6
  clear g7
  clear g8
  clear g9
  clear g10
  clear g11
  clear g12
  clear g13
  clear g14
  clear g15
  clear g16
  clear g17
  clear g18
  clear hbw0
  simp only [setM_some, setM_none, setM_nil]
  clear fk fs
  have eT : U4 39 = _ := g19
  clear g19
  rw [eT]
  clear eT
  go_wp2
  refine wp_region_M (by kernel_rfl) [7, 8, 40, 41, 42, 43, 44, 45] [none, none, none, none, none, none, none, some 7, some 8, none, none, none, none, none, none, none, none, none, none, none, none, none, none, none, none, none, none, none, none, none, none, none, none, none, none, none, none, none, none, none, some 40, some 41, some 42, some 43, some 44, some 45] (fun U => by kernel_rfl) (fun L U wr => Below w.heap.size w wr ∧ KeepI V4 wr ∧ V4.heap.size ≤ wr.heap.size ∧ Blk 27 wr (w2.heap.size) #[.bool xA, .slice aA nA cA, .bool yA, .slice eA mA fA] ∧ Blk 25 wr (bP) #[.bool xP, .slice aP nP cP] ∧ Blk 25 wr (bQ) #[.bool xQ, .slice aQ nQ cQ] ∧ (L 0 = true → IS (.agg #[.bool xP, .slice aP nP cP]) (U 41) wr) ∧ (L 1 = true → INT 1 (U 42) wr) ∧ (L 2 = true → T2 (INT (hz (fl + 1))) (IS (.int .i64 (ec (fl + 1)))) (U 43) wr) ∧ (L 3 = true → T2 (INT (hz (fl + 1))) (IS (.int .i64 (ec (fl + 1)))) (U 40) wr) ∧ (L 4 = true → INT (hz (fl + 1)) (U 44) wr) ∧ (L 5 = true → IS (.int .i64 (ec (fl + 1))) (U 45) wr) ∧ (L 6 = true → NEW 25 V4.heap.size wr (U 7) (bif L 7 then U 44 else .agg #[.bool false, .slice none 0 0])) ∧ (L 8 = true → IS (.int .i64 (ec (fl + 1))) (U 8) wr) ∧ (L 7 = true → L 4 = true) ∧ (L 7 = true → L 6 = true)) (by kernel_rfl) ?_ ?_ ?_
  · exact fun U => ⟨hbw.drew, KeepI.below (Below.refl _ _).drew, Nat.le_refl _, oA.drew, oP.drew, oQ.drew, (fun h => by cases h), (fun h => by cases h), (fun h => by cases h), (fun h => by cases h), (fun h => by cases h), (fun h => by cases h), (fun h => by cases h), (fun h => by cases h), (fun h => by cases h), (fun h => by cases h)⟩
  · refine StepsU.run rfl ?_ ?_
    · intro L U wr hF hlk haf A K hA hK
      have HA : Hid (A = putAll _ _ U) := hA
      clear hA
      simp [Aft, Region.binds] at haf
      obtain ⟨fb, fk, fs, oA, oP, oQ, f0, f1, f2, f3, f4, f5, f6, f8, s7, m6⟩ := hF
      have e5 : A.tmps[5]? = some (.pointer (some ⟨bP, 0, none⟩)) := by rw [HA.out]; kernel_rfl
      obtain ⟨c0, c1, -, -⟩ := oP.two
      refine ⟨?_⟩
      go_simp
      refine hK (upd U 41 (.agg #[.bool xP, .slice aP nP cP])) _ _ ?_ ?_
      · rw [HA.out]; kernel_rfl
      · exact ⟨fb, fk, fs, oA, oP, oQ, (fun _ => rfl), f1, f2, f3, f4, f5, f6, f8, s7, m6⟩
    refine StepsU.run rfl ?_ ?_
    · intro L U wr hF hlk haf A K hA hK
      have HA : Hid (A = putAll _ _ U) := hA
      clear hA
      simp [Aft, Region.binds] at haf
      obtain ⟨fb, fk, fs, oA, oP, oQ, f0, f1, f2, f3, f4, f5, f6, f8, s7, m6⟩ := hF
      refine ⟨?_⟩
      go_simp
      refine (from_any 1 _ (by decide) (by decide)).mono ?_
      rintro e w1 ⟨v42, rfl, hr, hb⟩
      go_simp
      refine hK (upd U 42 v42) _ _ ?_ ?_
      · rw [HA.out]; kernel_rfl
      · exact ⟨(fb.step hb (Nat.le_refl _)), (fk.trans (KeepI.below hb)), (Nat.le_trans fs hb.size), (oA.stay hb), (oP.stay hb), (oQ.stay hb), (mv mo_is (KeepI.below hb) f0), (fun _ => hr), (mv (mo_t2 mo_int mo_is) (KeepI.below hb) f2), (mv (mo_t2 mo_int mo_is) (KeepI.below hb) f3), (mv mo_int (KeepI.below hb) f4), (mv mo_is (KeepI.below hb) f5), (fun h => (f6 h).below hb), (mv mo_is (KeepI.below hb) f8), s7, m6⟩
    refine StepsU.run rfl ?_ ?_
    · intro L U wr hF hlk haf A K hA hK
      have HA : Hid (A = putAll _ _ U) := hA
      clear hA
      simp [Aft, Region.binds] at haf
      obtain ⟨fb, fk, fs, oA, oP, oQ, f0, f1, f2, f3, f4, f5, f6, f8, s7, m6⟩ := hF
      have g0 := f0 (by simp [haf])
      have e41 := rd HA.out 41 (by kernel_rfl) g0
      have g1 := f1 (by simp [haf])
      have e42 := rd HA.out 42 (by kernel_rfl) rfl
      refine ⟨?_⟩
      go_simp
      refine (add_h _ _ fl 1 _ (hP.keepI fk) g1).mono ?_
      rintro e w1 ⟨u1, u2, u3, u4, rfl, hr, hb⟩
      go_simp
      refine hK (upd U 43 (.tuple #[.agg #[.bool u1, .slice u2 u3 u4], .int .i64 (ec (fl + 1))])) _ _ ?_ ?_
      · rw [HA.out]; kernel_rfl
      · exact ⟨(fb.step hb (Nat.le_refl _)), (fk.trans (KeepI.below hb)), (Nat.le_trans fs hb.size), (oA.stay hb), (oP.stay hb), (oQ.stay hb), (mv mo_is (KeepI.below hb) f0), (mv mo_int (KeepI.below hb) f1), (fun _ => ⟨_, _, rfl, hr, rfl⟩), (mv (mo_t2 mo_int mo_is) (KeepI.below hb) f3), (mv mo_int (KeepI.below hb) f4), (mv mo_is (KeepI.below hb) f5), (fun h => (f6 h).below hb), (mv mo_is (KeepI.below hb) f8), s7, m6⟩
    refine StepsU.run rfl ?_ ?_
    · intro L U wr hF hlk haf A K hA hK
      have HA : Hid (A = putAll _ _ U) := hA
      clear hA
      simp [Aft, Region.binds] at haf
      obtain ⟨fb, fk, fs, oA, oP, oQ, f0, f1, f2, f3, f4, f5, f6, f8, s7, m6⟩ := hF
      have g2 := f2 (by simp [haf])
      have e43 := rd HA.out 43 (by kernel_rfl) rfl
      refine ⟨?_⟩
      go_simp
      refine hK (upd U 40 (U 43)) _ _ ?_ ?_
      · rw [HA.out]; kernel_rfl
      · exact ⟨fb, fk, fs, oA, oP, oQ, f0, f1, f2, (fun _ => g2), f4, f5, f6, f8, s7, m6⟩
    refine StepsU.run rfl ?_ ?_
    · intro L U wr hF hlk haf A K hA hK
      have HA : Hid (A = putAll _ _ U) := hA
      clear hA
      simp [Aft, Region.binds] at haf
      obtain ⟨fb, fk, fs, oA, oP, oQ, f0, f1, f2, f3, f4, f5, f6, f8, s7, m6⟩ := hF
      have g3 := f3 (by simp [haf])
      obtain ⟨t0, t1, hT, k0, k1⟩ := g3
      have e40 := rd HA.out 40 (by kernel_rfl) hT
      refine ⟨?_⟩
      go_simp
      have hs7 : L 7 = false := by cases h : L 7 with | false => rfl | true => rw [s7 h] at hlk; cases hlk
      refine hK (upd U 44 t0) _ _ ?_ ?_
      · rw [HA.out]; kernel_rfl
      · exact ⟨fb, fk, fs, oA, oP, oQ, f0, f1, f2, f3, (fun _ => k0), f5, (fun h => flip_v (P := fun v => NEW _ _ _ _ v) hs7 (f6 h)), f8, (fun _ => rfl), m6⟩
    refine StepsU.run rfl ?_ ?_
    · intro L U wr hF hlk haf A K hA hK
      have HA : Hid (A = putAll _ _ U) := hA
      clear hA
      simp [Aft, Region.binds] at haf
      obtain ⟨fb, fk, fs, oA, oP, oQ, f0, f1, f2, f3, f4, f5, f6, f8, s7, m6⟩ := hF
      have g3 := f3 (by simp [haf])
      obtain ⟨t0, t1, hT, k0, k1⟩ := g3
      have e40 := rd HA.out 40 (by kernel_rfl) hT
      refine ⟨?_⟩
      go_simp
      refine hK (upd U 45 t1) _ _ ?_ ?_
      · rw [HA.out]; kernel_rfl
      · exact ⟨fb, fk, fs, oA, oP, oQ, f0, f1, f2, f3, f4, (fun _ => k1), f6, f8, s7, m6⟩
    refine StepsU.run rfl ?_ ?_
    · intro L U wr hF hlk haf A K hA hK
      have HA : Hid (A = putAll _ _ U) := hA
      clear hA
      simp [Aft, Region.binds] at haf
      obtain ⟨fb, fk, fs, oA, oP, oQ, f0, f1, f2, f3, f4, f5, f6, f8, s7, m6⟩ := hF
      have hst : L 7 = false := by cases h : L 7 with | false => rfl | true => rw [m6 h] at hlk; cases hlk
      refine ⟨?_⟩
      go_simp
      have hb := below_new wr (.cells #[.bool false, .slice none 0 0] 25 (0, 0))
      refine hK (upd U 7 (.pointer (some ⟨wr.heap.size, 0, none⟩))) _ _ ?_ ?_
      · rw [HA.out]; kernel_rfl
      · exact ⟨(fb.step hb (Nat.le_refl _)), (fk.trans (KeepI.below hb)), (Nat.le_trans fs hb.size), (oA.stay hb), (oP.stay hb), (oQ.stay hb), (mv mo_is (KeepI.below hb) f0), (mv mo_int (KeepI.below hb) f1), (mv (mo_t2 mo_int mo_is) (KeepI.below hb) f2), (mv (mo_t2 mo_int mo_is) (KeepI.below hb) f3), (mv mo_int (KeepI.below hb) f4), (mv mo_is (KeepI.below hb) f5), (fun _ => new_zero hst (NEW.mk fs (noI2 _ _ _ _))), (mv mo_is (KeepI.below hb) f8), s7, (fun _ => rfl)⟩
    refine StepsU.run rfl ?_ ?_
    · intro L U wr hF hlk haf A K hA hK
      have HA : Hid (A = putAll _ _ U) := hA
      clear hA
      simp [Aft, Region.binds] at haf
      obtain ⟨fb, fk, fs, oA, oP, oQ, f0, f1, f2, f3, f4, f5, f6, f8, s7, m6⟩ := hF
      have g4 := f4 (by simp [haf])
      obtain ⟨px, pa, pn, pc, hsrc⟩ := AInt.shape g4
      have e44 := rd HA.out 44 (by kernel_rfl) hsrc
      have gA := f6 (by simp [haf])
      simp only [hlk, cond_false] at gA
      obtain ⟨b, cs, hp, hBb, hcs, hblk, -⟩ := gA
      injection hcs with hcs
      subst hcs
      have e7 := rd HA.out 7 (by kernel_rfl) hp
      obtain ⟨c0, c1, q0, q1⟩ := hblk.two
      refine ⟨?_⟩
      go_simp
      have hk := keepI_two hblk px pa pn pc
      refine hK U _ _ ?_ ?_
      · exact HA.out
      · exact ⟨(below_store2 fb (Nat.le_trans hbw.size hBb) _ _), (fk.trans hk), (by simpa using fs), (oA.other2 (Nat.ne_of_gt (Nat.lt_of_lt_of_le ltA hBb)) _ _), (oP.other2 (Nat.ne_of_gt (Nat.lt_of_lt_of_le ltP hBb)) _ _), (oQ.other2 (Nat.ne_of_gt (Nat.lt_of_lt_of_le ltQ hBb)) _ _), (mv mo_is hk f0), (mv mo_int hk f1), (mv (mo_t2 mo_int mo_is) hk f2), (mv (mo_t2 mo_int mo_is) hk f3), (mv mo_int hk f4), (mv mo_is hk f5), (fun _ => stored_new hp hsrc (NEW.over2 hBb hblk px pa pn pc)), (mv mo_is hk f8), (fun _ => by simp [haf]), (fun _ => by simp [haf])⟩
    refine StepsU.run rfl ?_ StepsU.nil
    · intro L U wr hF hlk haf A K hA hK
      have HA : Hid (A = putAll _ _ U) := hA
      clear hA
      simp [Aft, Region.binds] at haf
      obtain ⟨fb, fk, fs, oA, oP, oQ, f0, f1, f2, f3, f4, f5, f6, f8, s7, m6⟩ := hF
      have g5 := f5 (by simp [haf])
      have e45 := rd HA.out 45 (by kernel_rfl) rfl
      refine ⟨?_⟩
      go_simp
      refine hK (upd U 8 (U 45)) _ _ ?_ ?_
      · rw [HA.out]; kernel_rfl
      · exact ⟨fb, fk, fs, oA, oP, oQ, f0, f1, f2, f3, f4, f5, f6, (fun _ => g5), s7, m6⟩
  intro L U5 V5 hall hF
  have hbw0 := hbw
  clear hbw
  obtain ⟨hbw, fk, fs, oA, oP, oQ, f0, f1, f2, f3, f4, f5, f6, f8, s7, m6⟩ := hF
  clear s7 m6
  have g0 := f0 (hall 0 (by decide))
  have g1 := f1 (hall 1 (by decide))
  have g2 := f2 (hall 2 (by decide))
  have g3 := f3 (hall 3 (by decide))
  have g4 := f4 (hall 4 (by decide))
  have g5 := f5 (hall 5 (by decide))
  have g6 := f6 (hall 6 (by decide))
  rw [hall 7 (by decide), cond_true] at g6
  have g8 := f8 (hall 8 (by decide))
  clear hall f0 f1 f2 f3 f4 f5 f6 f8
  replace hA := hA.keepI fk
  replace hAr := hAr.keepI fk
  replace hP := hP.keepI fk
  replace hQ := hQ.keepI fk
  obtain ⟨bO, csO, hpO, lbO, hcsO, oO, -⟩ := g6
  obtain ⟨xO, aO, nO, cO, hvO⟩ := AInt.shape g4
  have hO : AInt _ _ _ := g4
  rw [hvO] at hO
  rw [hvO] at hcsO
  injection hcsO with hcsO
  subst hcsO
  have ltO := oO.lt
  have neAO : w2.heap.size ≠ bO := Nat.ne_of_lt (Nat.lt_of_lt_of_le ltA lbO)
  have nePO : bP ≠ bO := Nat.ne_of_lt (Nat.lt_of_lt_of_le ltP lbO)
  have neQO : bQ ≠ bO := Nat.ne_of_lt (Nat.lt_of_lt_of_le ltQ lbO)
  have lwO : w.heap.size ≤ bO := Nat.le_trans hbw0.size lbO
  clear lbO
  replace ltA := Nat.lt_of_lt_of_le ltA fs
  replace ltP := Nat.lt_of_lt_of_le ltP fs
  replace ltQ := Nat.lt_of_lt_of_le ltQ fs
  clear g0
  clear g1
  clear g2
  clear g3
  clear g4
  clear g5
  clear hbw0
  simp only [setM_some, setM_none, setM_nil]
  rw [hpO]
  clear hpO hvO
  clear ltAr oAr
  clear fk fs
  have eC : U5 8 = _ := g8
  clear g8
  rw [eC]
  clear eC
  by_cases hd : q.den = 1
  · have HD : Hid (q.den = 1) := hd
    have HW : Hid (fl = q.num ∧ cl = q.num) := by show _ ∧ _; rw [← HF.out, ← HL.out]; exact whole_round hd
    clear hd
    obtain ⟨Ac0, Ac1, Ac2, Ac3⟩ := oA.four
    obtain ⟨Aq0, Aq1, Aq2, Aq3⟩ := oA.frozen4
    go_wp2_with fail
    refine (isWhole_any _ q true _ hA.val (by rw [HD.out]; rfl)).mono ?_
    rintro e w6 ⟨rfl, hb⟩
    clear Ac0 Ac1 Ac2 Ac3 Aq0 Aq1 Aq2 Aq3
    replace oA := oA.stay hb
    replace ltA := oA.lt
    replace oP := oP.stay hb
    replace ltP := oP.lt
    replace oQ := oQ.stay hb
    replace ltQ := oQ.lt
    replace oO := oO.stay hb
    replace ltO := oO.lt
    replace hA := hA.below hb
    replace hAr := hAr.below hb
    replace hP := hP.below hb
    replace hQ := hQ.below hb
    replace hO := hO.below hb
    replace hbw := hbw.step hb (Nat.le_refl _)
    clear hb
    go_wp2
    refine wp_region_M (by kernel_rfl) [2, 48, 49, 50, 51, 52, 53, 54, 55, 56, 57, 58] [none, none, some 2, none, none, none, none, none, none, none, none, none, none, none, none, none, none, none, none, none, none, none, none, none, none, none, none, none, none, none, none, none, none, none, none, none, none, none, none, none, none, none, none, none, none, none, none, none, some 48, some 49, some 50, some 51, some 52, some 53, some 54, some 55, some 56, some 57, some 58] (fun U => by kernel_rfl) (fun L U wr => Below w.heap.size w wr ∧ KeepI w6 wr ∧ w6.heap.size ≤ wr.heap.size ∧ Blk 27 wr (w2.heap.size) #[.bool xA, .slice aA nA cA, .bool yA, .slice eA mA fA] ∧ Blk 25 wr (bP) #[.bool xP, .slice aP nP cP] ∧ Blk 25 wr (bQ) #[.bool xQ, .slice aQ nQ cQ] ∧ (L 0 = true → IS (.agg #[.bool xP, .slice aP nP cP]) (U 48) wr) ∧ (L 1 = true → IS (.agg #[.bool xQ, .slice aQ nQ cQ]) (U 49) wr) ∧ (L 2 = true → IS (.int .i64 0) (U 50) wr) ∧ (L 3 = true → IS (.bool true) (U 51) wr) ∧ (L 4 = true → IS (.bool true) (U 52) wr) ∧ (L 5 = true → IS (.agg #[.bool xP, .slice aP nP cP]) (U 53) wr) ∧ (L 6 = true → IS (.agg #[.bool xA, .slice aA nA cA, .bool yA, .slice eA mA fA]) (U 54) wr) ∧ (L 7 = true → INT q.num (U 55) wr) ∧ (L 8 = true → IS (.int .i64 0) (U 56) wr) ∧ (L 9 = true → IS (.bool true) (U 57) wr) ∧ (L 10 = true → IS (.bool true) (U 58) wr) ∧ (L 11 = true → IS (.bool true) (U 2) wr)) (by kernel_rfl) ?_ ?_ ?_
    · exact fun U => ⟨hbw.drew, KeepI.below (Below.refl _ _).drew, Nat.le_refl _, oA.drew, oP.drew, oQ.drew, (fun h => by cases h), (fun h => by cases h), (fun h => by cases h), (fun h => by cases h), (fun h => by cases h), (fun h => by cases h), (fun h => by cases h), (fun h => by cases h), (fun h => by cases h), (fun h => by cases h), (fun h => by cases h), (fun h => by cases h)⟩
    · refine StepsU.run rfl ?_ ?_
      · intro L U wr hF hlk haf A K hA hK
        have HA : Hid (A = putAll _ _ U) := hA
        clear hA
        simp [Aft, Region.binds] at haf
        obtain ⟨fb, fk, fs, oA, oP, oQ, f0, f1, f2, f3, f4, f5, f6, f7, f8, f9, f10, f11⟩ := hF
        have e5 : A.tmps[5]? = some (.pointer (some ⟨bP, 0, none⟩)) := by rw [HA.out]; kernel_rfl
        obtain ⟨c0, c1, -, -⟩ := oP.two
        refine ⟨?_⟩
        go_simp
        refine hK (upd U 48 (.agg #[.bool xP, .slice aP nP cP])) _ _ ?_ ?_
        · rw [HA.out]; kernel_rfl
        · exact ⟨fb, fk, fs, oA, oP, oQ, (fun _ => rfl), f1, f2, f3, f4, f5, f6, f7, f8, f9, f10, f11⟩
      refine StepsU.run rfl ?_ ?_
      · intro L U wr hF hlk haf A K hA hK
        have HA : Hid (A = putAll _ _ U) := hA
        clear hA
        simp [Aft, Region.binds] at haf
        obtain ⟨fb, fk, fs, oA, oP, oQ, f0, f1, f2, f3, f4, f5, f6, f7, f8, f9, f10, f11⟩ := hF
        have e6 : A.tmps[6]? = some (.pointer (some ⟨bQ, 0, none⟩)) := by rw [HA.out]; kernel_rfl
        obtain ⟨c0, c1, -, -⟩ := oQ.two
        refine ⟨?_⟩
        go_simp
        refine hK (upd U 49 (.agg #[.bool xQ, .slice aQ nQ cQ])) _ _ ?_ ?_
        · rw [HA.out]; kernel_rfl
        · exact ⟨fb, fk, fs, oA, oP, oQ, f0, (fun _ => rfl), f2, f3, f4, f5, f6, f7, f8, f9, f10, f11⟩
      refine StepsU.run rfl ?_ ?_
      · intro L U wr hF hlk haf A K hA hK
        have HA : Hid (A = putAll _ _ U) := hA
        clear hA
        simp [Aft, Region.binds] at haf
        obtain ⟨fb, fk, fs, oA, oP, oQ, f0, f1, f2, f3, f4, f5, f6, f7, f8, f9, f10, f11⟩ := hF
        have g0 := f0 (by simp [haf])
        have e48 := rd HA.out 48 (by kernel_rfl) g0
        have g1 := f1 (by simp [haf])
        have e49 := rd HA.out 49 (by kernel_rfl) g1
        refine ⟨?_⟩
        go_simp
        refine (cmp_h _ _ fl cl 0 _ (hP.keepI fk) (hQ.keepI fk) (by rw [HW.out.1, HW.out.2]; simp)).mono ?_
        rintro e w1 ⟨rfl, hb⟩
        go_simp
        refine hK (upd U 50 (.int .i64 0)) _ _ ?_ ?_
        · rw [HA.out]; kernel_rfl
        · exact ⟨(fb.step hb (Nat.le_refl _)), (fk.trans (KeepI.below hb)), (Nat.le_trans fs hb.size), (oA.stay hb), (oP.stay hb), (oQ.stay hb), (mv mo_is (KeepI.below hb) f0), (mv mo_is (KeepI.below hb) f1), (fun _ => rfl), (mv mo_is (KeepI.below hb) f3), (mv mo_is (KeepI.below hb) f4), (mv mo_is (KeepI.below hb) f5), (mv mo_is (KeepI.below hb) f6), (mv mo_int (KeepI.below hb) f7), (mv mo_is (KeepI.below hb) f8), (mv mo_is (KeepI.below hb) f9), (mv mo_is (KeepI.below hb) f10), (mv mo_is (KeepI.below hb) f11)⟩
      refine StepsU.run rfl ?_ ?_
      · intro L U wr hF hlk haf A K hA hK
        have HA : Hid (A = putAll _ _ U) := hA
        clear hA
        simp [Aft, Region.binds] at haf
        obtain ⟨fb, fk, fs, oA, oP, oQ, f0, f1, f2, f3, f4, f5, f6, f7, f8, f9, f10, f11⟩ := hF
        have g2 := f2 (by simp [haf])
        have e50 := rd HA.out 50 (by kernel_rfl) g2
        refine ⟨?_⟩
        go_simp
        refine hK (upd U 51 (.bool true)) _ _ ?_ ?_
        · rw [HA.out]; kernel_rfl
        · exact ⟨fb, fk, fs, oA, oP, oQ, f0, f1, f2, (fun _ => rfl), f4, f5, f6, f7, f8, f9, f10, f11⟩
      refine StepsU.run rfl ?_ ?_
      · intro L U wr hF hlk haf A K hA hK
        have HA : Hid (A = putAll _ _ U) := hA
        clear hA
        simp [Aft, Region.binds] at haf
        obtain ⟨fb, fk, fs, oA, oP, oQ, f0, f1, f2, f3, f4, f5, f6, f7, f8, f9, f10, f11⟩ := hF
        have g3 := f3 (by simp [haf])
        have e51 := rd HA.out 51 (by kernel_rfl) rfl
        refine ⟨?_⟩
        go_simp
        refine hK (upd U 52 (U 51)) _ _ ?_ ?_
        · rw [HA.out]; kernel_rfl
        · exact ⟨fb, fk, fs, oA, oP, oQ, f0, f1, f2, f3, (fun _ => g3), f5, f6, f7, f8, f9, f10, f11⟩
      refine StepsU.cond ?_ ?_
      · intro L U wr hF hlk haf A K hA hK
        have HA : Hid (A = putAll _ _ U) := hA
        clear hA
        simp [Aft, Region.binds] at haf
        obtain ⟨fb, fk, fs, oA, oP, oQ, f0, f1, f2, f3, f4, f5, f6, f7, f8, f9, f10, f11⟩ := hF
        have gg := f4 (by simp [haf])
        have ee := rd HA.out 52 (by kernel_rfl) gg
        refine ⟨?_⟩
        rw [if_pos (by simp [Region.wanted, yielded, ee])]
        refine Gate.out ?_
        clear gg ee
        have e5 : A.tmps[5]? = some (.pointer (some ⟨bP, 0, none⟩)) := by rw [HA.out]; kernel_rfl
        obtain ⟨c0, c1, -, -⟩ := oP.two
        refine ⟨?_⟩
        go_simp
        refine hK (upd U 53 (.agg #[.bool xP, .slice aP nP cP])) _ _ ?_ ?_
        · rw [HA.out]; kernel_rfl
        · exact ⟨fb, fk, fs, oA, oP, oQ, f0, f1, f2, f3, f4, (fun _ => rfl), f6, f7, f8, f9, f10, f11⟩
      refine StepsU.cond ?_ ?_
      · intro L U wr hF hlk haf A K hA hK
        have HA : Hid (A = putAll _ _ U) := hA
        clear hA
        simp [Aft, Region.binds] at haf
        obtain ⟨fb, fk, fs, oA, oP, oQ, f0, f1, f2, f3, f4, f5, f6, f7, f8, f9, f10, f11⟩ := hF
        have gg := f4 (by simp [haf])
        have ee := rd HA.out 52 (by kernel_rfl) gg
        refine ⟨?_⟩
        rw [if_pos (by simp [Region.wanted, yielded, ee])]
        refine Gate.out ?_
        clear gg ee
        have e3 : A.tmps[3]? = some (.pointer (some ⟨w2.heap.size, 0, none⟩)) := by rw [HA.out]; kernel_rfl
        obtain ⟨c0, c1, c2, c3⟩ := oA.four
        refine ⟨?_⟩
        go_simp
        refine hK (upd U 54 (.agg #[.bool xA, .slice aA nA cA, .bool yA, .slice eA mA fA])) _ _ ?_ ?_
        · rw [HA.out]; kernel_rfl
        · exact ⟨fb, fk, fs, oA, oP, oQ, f0, f1, f2, f3, f4, f5, (fun _ => rfl), f7, f8, f9, f10, f11⟩
      refine StepsU.cond ?_ ?_
      · intro L U wr hF hlk haf A K hA hK
        have HA : Hid (A = putAll _ _ U) := hA
        clear hA
        simp [Aft, Region.binds] at haf
        obtain ⟨fb, fk, fs, oA, oP, oQ, f0, f1, f2, f3, f4, f5, f6, f7, f8, f9, f10, f11⟩ := hF
        have gg := f4 (by simp [haf])
        have ee := rd HA.out 52 (by kernel_rfl) gg
        refine ⟨?_⟩
        rw [if_pos (by simp [Region.wanted, yielded, ee])]
        refine Gate.out ?_
        clear gg ee
        have g6 := f6 (by simp [haf])
        have e54 := rd HA.out 54 (by kernel_rfl) g6
        refine ⟨?_⟩
        go_simp
        refine (qnum_any _ q _ (hA.val.keepI fk)).mono ?_
        rintro e w1 ⟨u1, u2, u3, u4, rfl, hr, hb⟩
        go_simp
        refine hK (upd U 55 (.agg #[.bool u1, .slice u2 u3 u4])) _ _ ?_ ?_
        · rw [HA.out]; kernel_rfl
        · exact ⟨(fb.step hb (Nat.le_refl _)), (fk.trans (KeepI.below hb)), (Nat.le_trans fs hb.size), (oA.stay hb), (oP.stay hb), (oQ.stay hb), (mv mo_is (KeepI.below hb) f0), (mv mo_is (KeepI.below hb) f1), (mv mo_is (KeepI.below hb) f2), (mv mo_is (KeepI.below hb) f3), (mv mo_is (KeepI.below hb) f4), (mv mo_is (KeepI.below hb) f5), (mv mo_is (KeepI.below hb) f6), (fun _ => hr), (mv mo_is (KeepI.below hb) f8), (mv mo_is (KeepI.below hb) f9), (mv mo_is (KeepI.below hb) f10), (mv mo_is (KeepI.below hb) f11)⟩
      refine StepsU.cond ?_ ?_
      · intro L U wr hF hlk haf A K hA hK
        have HA : Hid (A = putAll _ _ U) := hA
        clear hA
        simp [Aft, Region.binds] at haf
        obtain ⟨fb, fk, fs, oA, oP, oQ, f0, f1, f2, f3, f4, f5, f6, f7, f8, f9, f10, f11⟩ := hF
        have gg := f4 (by simp [haf])
        have ee := rd HA.out 52 (by kernel_rfl) gg
        refine ⟨?_⟩
        rw [if_pos (by simp [Region.wanted, yielded, ee])]
        refine Gate.out ?_
        clear gg ee
        have g5 := f5 (by simp [haf])
        have e53 := rd HA.out 53 (by kernel_rfl) g5
        have g7 := f7 (by simp [haf])
        have e55 := rd HA.out 55 (by kernel_rfl) rfl
        refine ⟨?_⟩
        go_simp
        refine (cmp_h _ _ fl q.num 0 _ (hP.keepI fk) g7 (by rw [HW.out.1]; simp)).mono ?_
        rintro e w1 ⟨rfl, hb⟩
        go_simp
        refine hK (upd U 56 (.int .i64 0)) _ _ ?_ ?_
        · rw [HA.out]; kernel_rfl
        · exact ⟨(fb.step hb (Nat.le_refl _)), (fk.trans (KeepI.below hb)), (Nat.le_trans fs hb.size), (oA.stay hb), (oP.stay hb), (oQ.stay hb), (mv mo_is (KeepI.below hb) f0), (mv mo_is (KeepI.below hb) f1), (mv mo_is (KeepI.below hb) f2), (mv mo_is (KeepI.below hb) f3), (mv mo_is (KeepI.below hb) f4), (mv mo_is (KeepI.below hb) f5), (mv mo_is (KeepI.below hb) f6), (mv mo_int (KeepI.below hb) f7), (fun _ => rfl), (mv mo_is (KeepI.below hb) f9), (mv mo_is (KeepI.below hb) f10), (mv mo_is (KeepI.below hb) f11)⟩
      refine StepsU.cond ?_ ?_
      · intro L U wr hF hlk haf A K hA hK
        have HA : Hid (A = putAll _ _ U) := hA
        clear hA
        simp [Aft, Region.binds] at haf
        obtain ⟨fb, fk, fs, oA, oP, oQ, f0, f1, f2, f3, f4, f5, f6, f7, f8, f9, f10, f11⟩ := hF
        have gg := f4 (by simp [haf])
        have ee := rd HA.out 52 (by kernel_rfl) gg
        refine ⟨?_⟩
        rw [if_pos (by simp [Region.wanted, yielded, ee])]
        refine Gate.out ?_
        clear gg ee
        have g8 := f8 (by simp [haf])
        have e56 := rd HA.out 56 (by kernel_rfl) g8
        refine ⟨?_⟩
        go_simp
        refine hK (upd U 57 (.bool true)) _ _ ?_ ?_
        · rw [HA.out]; kernel_rfl
        · exact ⟨fb, fk, fs, oA, oP, oQ, f0, f1, f2, f3, f4, f5, f6, f7, f8, (fun _ => rfl), f10, f11⟩
      refine StepsU.run rfl ?_ ?_
      · intro L U wr hF hlk haf A K hA hK
        have HA : Hid (A = putAll _ _ U) := hA
        clear hA
        simp [Aft, Region.binds] at haf
        obtain ⟨fb, fk, fs, oA, oP, oQ, f0, f1, f2, f3, f4, f5, f6, f7, f8, f9, f10, f11⟩ := hF
        have g4 := f4 (by simp [haf])
        have g9 := f9 (by simp [haf])
        have e52 := rd HA.out 52 (by kernel_rfl) g4
        have e57 := rd HA.out 57 (by kernel_rfl) g9
        refine ⟨?_⟩
        go_simp
        refine hK (upd U 58 (.bool true)) _ _ ?_ ?_
        · rw [HA.out]; kernel_rfl
        · exact ⟨fb, fk, fs, oA, oP, oQ, f0, f1, f2, f3, f4, f5, f6, f7, f8, f9, (fun _ => rfl), f11⟩
      refine StepsU.run rfl ?_ StepsU.nil
      · intro L U wr hF hlk haf A K hA hK
        have HA : Hid (A = putAll _ _ U) := hA
        clear hA
        simp [Aft, Region.binds] at haf
        obtain ⟨fb, fk, fs, oA, oP, oQ, f0, f1, f2, f3, f4, f5, f6, f7, f8, f9, f10, f11⟩ := hF
        have g10 := f10 (by simp [haf])
        have e58 := rd HA.out 58 (by kernel_rfl) rfl
        refine ⟨?_⟩
        go_simp
        refine hK (upd U 2 (U 58)) _ _ ?_ ?_
        · rw [HA.out]; kernel_rfl
        · exact ⟨fb, fk, fs, oA, oP, oQ, f0, f1, f2, f3, f4, f5, f6, f7, f8, f9, f10, (fun _ => g10)⟩
    intro L U7 V7 hall hF
    have hbw0 := hbw
    clear hbw
    obtain ⟨hbw, fk, fs, oA, oP, oQ, f0, f1, f2, f3, f4, f5, f6, f7, f8, f9, f10, f11⟩ := hF
    have g0 := f0 (hall 0 (by decide))
    have g1 := f1 (hall 1 (by decide))
    have g2 := f2 (hall 2 (by decide))
    have g3 := f3 (hall 3 (by decide))
    have g4 := f4 (hall 4 (by decide))
    have g5 := f5 (hall 5 (by decide))
    have g6 := f6 (hall 6 (by decide))
    have g7 := f7 (hall 7 (by decide))
    have g8 := f8 (hall 8 (by decide))
    have g9 := f9 (hall 9 (by decide))
    have g10 := f10 (hall 10 (by decide))
    have g11 := f11 (hall 11 (by decide))
    clear hall f0 f1 f2 f3 f4 f5 f6 f7 f8 f9 f10 f11
    replace hA := hA.keepI fk
    replace hAr := hAr.keepI fk
    replace hP := hP.keepI fk
    replace hQ := hQ.keepI fk
    replace hO := hO.keepI fk
    replace ltA := Nat.lt_of_lt_of_le ltA fs
    replace ltP := Nat.lt_of_lt_of_le ltP fs
    replace ltQ := Nat.lt_of_lt_of_le ltQ fs
    clear g0
    clear g1
    clear g2
    clear g3
    clear g4
    clear g5
    clear g6
    clear g7
    clear g8
    clear g9
    clear g10
    clear hbw0
    simp only [setM_some, setM_none, setM_nil]
    clear ltO oO
    clear fk fs
    have eT : U7 2 = _ := g11
    try simp only []
    try go_at_K
    repeat (first | go_values | go_skip | go_guarded | go_step | go_upon)
    refine bodyPost_ret (v := (.bool true)) (by simp [results, Try.results6, go_sem, eT]) rfl ?_
    exact ⟨rfl, hbw⟩
  · have HD : Hid (q.den ≠ 1) := hd
    have HW : Hid (cl = fl + 1 ∧ (fl + 1).natAbs < lim) := by show _ ∧ _; rw [← HF.out, ← HL.out]; exact broken_round hd HZ.out.1
    have E1 : ec (fl + 1) = 0 := ec_of HW.out.2
    rw [hz_of HW.out.2] at hO
    clear hd
    obtain ⟨Ac0, Ac1, Ac2, Ac3⟩ := oA.four
    obtain ⟨Aq0, Aq1, Aq2, Aq3⟩ := oA.frozen4
    go_wp2_with fail
    refine (isWhole_any _ q false _ hA.val (by rw [beq_eq_false_iff_ne]; exact HD.out)).mono ?_
    rintro e w6 ⟨rfl, hb⟩
    clear Ac0 Ac1 Ac2 Ac3 Aq0 Aq1 Aq2 Aq3
    replace oA := oA.stay hb
    replace ltA := oA.lt
    replace oP := oP.stay hb
    replace ltP := oP.lt
    replace oQ := oQ.stay hb
    replace ltQ := oQ.lt
    replace oO := oO.stay hb
    replace ltO := oO.lt
    replace hA := hA.below hb
    replace hAr := hAr.below hb
    replace hP := hP.below hb
    replace hQ := hQ.below hb
    replace hO := hO.below hb
    replace hbw := hbw.step hb (Nat.le_refl _)
    clear hb
    obtain ⟨Oc0, Oc1, Oq0, Oq1⟩ := oO.two
    obtain ⟨Qc0, Qc1, Qq0, Qq1⟩ := oQ.two
    go_wp2_with fail
    refine (cmp_h _ _ (fl + 1) cl 0 _ hO hQ (by rw [HW.out.1]; simp)).mono ?_
    rintro e w7 ⟨rfl, hb⟩
    clear Oc0 Oc1 Oq0 Oq1
    clear Qc0 Qc1 Qq0 Qq1
    replace oA := oA.stay hb
    replace ltA := oA.lt
    replace oP := oP.stay hb
    replace ltP := oP.lt
    replace oQ := oQ.stay hb
    replace ltQ := oQ.lt
    replace oO := oO.stay hb
    replace ltO := oO.lt
    replace hA := hA.below hb
    replace hAr := hAr.below hb
    replace hP := hP.below hb
    replace hQ := hQ.below hb
    replace hO := hO.below hb
    replace hbw := hbw.step hb (Nat.le_refl _)
    clear hb
    go_wp2
    refine bodyPost_ret (v := (.bool true)) (by simp [results, Try.results6, go_sem]) rfl ?_
    exact ⟨rfl, hbw⟩
end Go.Proofs.Ytidpbdhhbeaijaa
