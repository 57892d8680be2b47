/- Contracts of suretyref02's held, Times, Mul and Quo; they prove no statement of the seat. -/
import Derived.Test.YtidpbdhhbeaijaaGreatR3JReckons
import Derived.Test.YtidpbdhhbeaijaaGreatQ7JReckons
namespace Go.Proofs.YtidpbdhhbeaijaaGreat
open Go.RowKit
def heC (q : Rat) : Int := if q.num.natAbs < lim ∧ (q.den : Int).natAbs < lim then 0 else 11
def heZ (q : Rat) : Rat := if q.num.natAbs < lim ∧ (q.den : Int).natAbs < lim then q else 0

set_option maxRecDepth 20000 in
set_option maxHeartbeats 8000000 in
theorem rheldq_any (vX : Value) (q : Rat) (N : Nat) (w : World) (hX : QRV w vX q N) (hN : 20 ≤ N ∧ N ≤ 10000) :
    Calls Tryz.prog 40 #[vX] w fun e w' => ∃ s1 s2 s3 s4 s5 s6 s7 s8, e = .returned (.tuple #[.agg #[.bool s1, .slice s2 s3 s4, .bool s5, .slice s6 s7 s8], .int .i64 (heC q)]) ∧ QRP w' s1 s2 s3 s4 s5 s6 s7 s8 (heZ q) (400) ∧ Below w.heap.size w w' := by
  obtain ⟨xX, aX, nX, cX, yX, eX, mX, fX, rfl, hX⟩ := hX
  have HN0 : Hid (20 ≤ N ∧ N ≤ 10000) := hN
  clear hN
  have oX := ((Blk.new w 32 #[.bool xX, .slice aX nX cX, .bool yX, .slice eX mX fX]).alloc (.cells #[.bool false, .slice none 0 0, .bool false, .slice none 0 0] 32 (0, 0)))
  have oR := (Blk.new (w.alloc (.cells #[.bool xX, .slice aX nX cX, .bool yX, .slice eX mX fX] 32 (0, 0))) 32 #[.bool false, .slice none 0 0, .bool false, .slice none 0 0])
  simp only [World.size_alloc] at oR
  have hbw : Below w.heap.size w ((w.alloc (.cells #[.bool xX, .slice aX nX cX, .bool yX, .slice eX mX fX] 32 (0, 0))).alloc (.cells #[.bool false, .slice none 0 0, .bool false, .slice none 0 0] 32 (0, 0))) := by go_grown
  replace hX := hX.below hbw
  have ltX := oX.lt
  have ltR := oR.lt
  go_enter Tryz.func40, Tryz.ntmps40
  by_cases g1 : q.num.natAbs < lim
  · have H1 : Hid (q.num.natAbs < lim) := g1
    clear g1
    obtain ⟨Xc0, Xc1, Xc2, Xc3⟩ := oX.four
    obtain ⟨Xq0, Xq1, Xq2, Xq3⟩ := oX.frozen4
    go_wp2_with fail
    refine (rbig_any _ q.num N false _ hX.1 HN0.out.2 (big_no H1.out)).mono ?_
    rintro e w1 ⟨rfl, hb⟩
    clear Xc0 Xc1 Xc2 Xc3 Xq0 Xq1 Xq2 Xq3
    replace oX := oX.stay hb
    replace ltX := oX.lt
    replace oR := oR.stay hb
    replace ltR := oR.lt
    replace hX := hX.below hb
    replace hbw := hbw.step hb (Nat.le_refl _)
    clear hb
    obtain ⟨Xc0, Xc1, Xc2, Xc3⟩ := oX.four
    obtain ⟨Xq0, Xq1, Xq2, Xq3⟩ := oX.frozen4
    go_wp2_with fail
    refine (low_any _ q N _ hX.val HN0.out.1).mono ?_
    rintro e w2 ⟨u1, u2, u3, u4, rfl, hLo, hb⟩
    clear Xc0 Xc1 Xc2 Xc3 Xq0 Xq1 Xq2 Xq3
    replace oX := oX.stay hb
    replace ltX := oX.lt
    replace oR := oR.stay hb
    replace ltR := oR.lt
    replace hX := hX.below hb
    replace hbw := hbw.step hb (Nat.le_refl _)
    clear hb
    by_cases g2 : (q.den : Int).natAbs < lim
    · have H2 : Hid ((q.den : Int).natAbs < lim) := g2
      have HY : Hid (heC q = 0 ∧ heZ q = q) := ⟨if_pos ⟨H1.out, g2⟩, if_pos ⟨H1.out, g2⟩⟩
      clear g2
      go_wp2_with fail
      refine (rbig_any _ (q.den : Int) N false _ hLo HN0.out.2 (big_no H2.out)).mono ?_
      rintro e w3 ⟨rfl, hb⟩
      replace oX := oX.stay hb
      replace ltX := oX.lt
      replace oR := oR.stay hb
      replace ltR := oR.lt
      replace hX := hX.below hb
      replace hLo := hLo.below hb
      replace hbw := hbw.step hb (Nat.le_refl _)
      clear hb
      obtain ⟨Xc0, Xc1, Xc2, Xc3⟩ := oX.four
      obtain ⟨Xq0, Xq1, Xq2, Xq3⟩ := oX.frozen4
      obtain ⟨Rc0, Rc1, Rc2, Rc3⟩ := oR.four
      obtain ⟨Rq0, Rq1, Rq2, Rq3⟩ := oR.frozen4
      try simp only []
      try go_at_K
      repeat (first | go_values | go_skip | go_guarded | go_step | go_upon)
      refine bodyPost_ret (v := (.tuple #[.agg #[.bool xX, .slice aX nX cX, .bool yX, .slice eX mX fX], .int .i64 0])) (by simp [results, Tryz.results40, go_sem, Rc0, Rc1, Rc2, Rc3]) rfl ?_
      refine ⟨_, _, _, _, _, _, _, _, by rw [HY.out.1], ?_, below_store4 hbw (by omega) _ _ _ _⟩
      rw [HY.out.2]
      exact (hX.small H1.out H2.out).keepI (keepI_four (noI_slice _ _ _) (noI_slice _ _ _) oR _ _ _ _ _ _ _ _)
    · have H2 : Hid (¬ (q.den : Int).natAbs < lim) := g2
      have HN : Hid (heC q = 11 ∧ heZ q = 0) := ⟨if_neg (fun h => g2 h.2), if_neg (fun h => g2 h.2)⟩
      clear g2
      go_wp2_with fail
      refine (rbig_any _ (q.den : Int) N true _ hLo HN0.out.2 (big_yes H2.out)).mono ?_
      rintro e w3 ⟨rfl, hb⟩
      replace oX := oX.stay hb
      replace ltX := oX.lt
      replace oR := oR.stay hb
      replace ltR := oR.lt
      replace hX := hX.below hb
      replace hLo := hLo.below hb
      replace hbw := hbw.step hb (Nat.le_refl _)
      clear hb
      obtain ⟨Rc0, Rc1, Rc2, Rc3⟩ := oR.four
      obtain ⟨Rq0, Rq1, Rq2, Rq3⟩ := oR.frozen4
      try simp only []
      try go_at_K
      repeat (first | go_values | go_skip | go_guarded | go_step | go_upon)
      refine bodyPost_ret (v := (.tuple #[.agg #[.bool false, .slice none 0 0, .bool false, .slice none 0 0], .int .i64 11])) (by simp [results, Tryz.results40, go_sem, Rc0, Rc1, Rc2, Rc3]) rfl ?_
      refine ⟨_, _, _, _, _, _, _, _, by rw [HN.out.1], ?_, ?_⟩
      · rw [HN.out.2]; exact QRP.zero
      · first | exact hbw | exact below_store4 hbw (by omega) _ _ _ _
  · have H1 : Hid (¬ q.num.natAbs < lim) := g1
    have HN : Hid (heC q = 11 ∧ heZ q = 0) := ⟨if_neg (fun h => g1 h.1), if_neg (fun h => g1 h.1)⟩
    clear g1
    obtain ⟨Xc0, Xc1, Xc2, Xc3⟩ := oX.four
    obtain ⟨Xq0, Xq1, Xq2, Xq3⟩ := oX.frozen4
    go_wp2_with fail
    refine (rbig_any _ q.num N true _ hX.1 HN0.out.2 (big_yes H1.out)).mono ?_
    rintro e w1 ⟨rfl, hb⟩
    clear Xc0 Xc1 Xc2 Xc3 Xq0 Xq1 Xq2 Xq3
    replace oX := oX.stay hb
    replace ltX := oX.lt
    replace oR := oR.stay hb
    replace ltR := oR.lt
    replace hX := hX.below hb
    replace hbw := hbw.step hb (Nat.le_refl _)
    clear hb
    obtain ⟨Rc0, Rc1, Rc2, Rc3⟩ := oR.four
    obtain ⟨Rq0, Rq1, Rq2, Rq3⟩ := oR.frozen4
    try simp only []
    try go_at_K
    repeat (first | go_values | go_skip | go_guarded | go_step | go_upon)
    refine bodyPost_ret (v := (.tuple #[.agg #[.bool false, .slice none 0 0, .bool false, .slice none 0 0], .int .i64 11])) (by simp [results, Tryz.results40, go_sem, Rc0, Rc1, Rc2, Rc3]) rfl ?_
    refine ⟨_, _, _, _, _, _, _, _, by rw [HN.out.1], ?_, ?_⟩
    · rw [HN.out.2]; exact QRP.zero
    · first | exact hbw | exact below_store4 hbw (by omega) _ _ _ _

set_option maxRecDepth 20000 in
set_option maxHeartbeats 8000000 in
theorem rqtimes_any (vX vY : Value) (x1 y1 : Rat) (w : World) (hX : QRV w vX x1 400) (hY : QRV w vY y1 400) :
    Calls Tryz.prog 41 #[vX, vY] w fun e w' => ∃ s1 s2 s3 s4 s5 s6 s7 s8, e = .returned (.agg #[.bool s1, .slice s2 s3 s4, .bool s5, .slice s6 s7 s8]) ∧ QRP w' s1 s2 s3 s4 s5 s6 s7 s8 (x1 * y1) (1632) ∧ Below w.heap.size w w' := by
  obtain ⟨xX, aX, nX, cX, yX, eX, mX, fX, rfl, hX⟩ := hX
  obtain ⟨xY, aY, nY, cY, yY, eY, mY, fY, rfl, hY⟩ := hY
  have oX := (((Blk.new w 32 #[.bool xX, .slice aX nX cX, .bool yX, .slice eX mX fX]).alloc (.cells #[.bool xY, .slice aY nY cY, .bool yY, .slice eY mY fY] 32 (0, 0))).alloc (.cells #[.bool false, .slice none 0 0, .bool false, .slice none 0 0] 32 (0, 0)))
  have oY := ((Blk.new (w.alloc (.cells #[.bool xX, .slice aX nX cX, .bool yX, .slice eX mX fX] 32 (0, 0))) 32 #[.bool xY, .slice aY nY cY, .bool yY, .slice eY mY fY]).alloc (.cells #[.bool false, .slice none 0 0, .bool false, .slice none 0 0] 32 (0, 0)))
  have oR := (Blk.new ((w.alloc (.cells #[.bool xX, .slice aX nX cX, .bool yX, .slice eX mX fX] 32 (0, 0))).alloc (.cells #[.bool xY, .slice aY nY cY, .bool yY, .slice eY mY fY] 32 (0, 0))) 32 #[.bool false, .slice none 0 0, .bool false, .slice none 0 0])
  simp only [World.size_alloc] at oY oR
  have hbw : Below w.heap.size w (((w.alloc (.cells #[.bool xX, .slice aX nX cX, .bool yX, .slice eX mX fX] 32 (0, 0))).alloc (.cells #[.bool xY, .slice aY nY cY, .bool yY, .slice eY mY fY] 32 (0, 0))).alloc (.cells #[.bool false, .slice none 0 0, .bool false, .slice none 0 0] 32 (0, 0))) := by go_grown
  replace hX := hX.below hbw
  replace hY := hY.below hbw
  have ltX := oX.lt
  have ltY := oY.lt
  have ltR := oR.lt
  go_enter Tryz.func41, Tryz.ntmps41
  have HD : Hid ((x1.den : Int) * (y1.den : Int) ≠ 0) := Int.ne_of_gt (Int.mul_pos (den_pos x1) (den_pos y1))
  go_wp2
  generalize (((w.alloc (.cells #[.bool xX, .slice aX nX cX, .bool yX, .slice eX mX fX] 32 (0, 0))).alloc (.cells #[.bool xY, .slice aY nY cY, .bool yY, .slice eY mY fY] 32 (0, 0))).alloc (.cells #[.bool false, .slice none 0 0, .bool false, .slice none 0 0] 32 (0, 0))) = W0 at hbw oX oY oR ltX ltY ltR hX hY ⊢
  have rR := oR
  clear oR
  have geR : w.heap.size ≤ w.heap.size + 1 + 1 := by omega
  have neRX : w.heap.size + 1 + 1 ≠ w.heap.size := by omega
  have neRY : w.heap.size + 1 + 1 ≠ w.heap.size + 1 := by omega
  refine wp_region_M (by kernel_rfl) [5, 6, 7, 8, 9, 10, 11, 12, 13, 14, 15] [none, none, none, none, none, some 5, some 6, some 7, some 8, some 9, some 10, some 11, some 12, some 13, some 14, some 15] (fun U => by kernel_rfl) (fun L U wr => Below w.heap.size w wr ∧ KeepI W0 wr ∧ W0.heap.size ≤ wr.heap.size ∧ Blk 32 wr (w.heap.size) #[.bool xX, .slice aX nX cX, .bool yX, .slice eX mX fX] ∧ Blk 32 wr (w.heap.size + 1) #[.bool xY, .slice aY nY cY, .bool yY, .slice eY mY fY] ∧ BlkV 32 wr (w.heap.size + 1 + 1) (bif L 11 then U 15 else .agg #[.bool false, .slice none 0 0, .bool false, .slice none 0 0]) ∧ (L 0 = true → IS (.pointer (some ⟨w.heap.size, 0, none⟩)) (U 5) wr) ∧ (L 1 = true → IS (.agg #[.bool xX, .slice aX nX cX]) (U 6) wr) ∧ (L 2 = true → IS (.pointer (some ⟨w.heap.size + 1, 0, none⟩)) (U 7) wr) ∧ (L 3 = true → IS (.agg #[.bool xY, .slice aY nY cY]) (U 8) wr) ∧ (L 4 = true → RNM (x1.num * y1.num) 801 (U 9) wr) ∧ (L 5 = true → IS (.agg #[.bool xX, .slice aX nX cX, .bool yX, .slice eX mX fX]) (U 10) wr) ∧ (L 6 = true → RNM (x1.den : Int) 400 (U 11) wr) ∧ (L 7 = true → IS (.agg #[.bool xY, .slice aY nY cY, .bool yY, .slice eY mY fY]) (U 12) wr) ∧ (L 8 = true → RNM (y1.den : Int) 400 (U 13) wr) ∧ (L 9 = true → RNM ((x1.den : Int) * (y1.den : Int)) 801 (U 14) wr) ∧ (L 10 = true → RRT (Rat.divInt (x1.num * y1.num) ((x1.den : Int) * (y1.den : Int))) 1632 (U 15) wr) ∧ (L 11 = true → L 10 = true)) (by kernel_rfl) ?_ ?_ ?_
  · exact fun U => ⟨hbw.drew, KeepI.below (Below.refl _ _).drew, Nat.le_refl _, oX.drew, oY.drew, ⟨_, rfl, rR.drew⟩, (fun h => by cases h), (fun h => by cases h), (fun h => by cases h), (fun h => by cases h), (fun h => by cases h), (fun h => by cases h), (fun h => by cases h), (fun h => by cases h), (fun h => by cases h), (fun h => by cases h), (fun h => by cases h), (fun h => by cases h)⟩
  · refine StepsU.run rfl ?_ ?_
    · intro L U wr hF hlk haf A K hA hK
      have HA : Hid (A = putAll _ _ U) := hA
      clear hA
      simp [Aft, Region.binds] at haf
      obtain ⟨fb, fk, fs, oX, oY, rR, f0, f1, f2, f3, f4, f5, f6, f7, f8, f9, f10, s11⟩ := hF
      have e2 : A.tmps[2]? = some (.pointer (some ⟨w.heap.size, 0, none⟩)) := by rw [HA.out]; kernel_rfl
      refine ⟨?_⟩
      go_simp
      refine hK (upd U 5 (.pointer (some ⟨w.heap.size, 0, none⟩))) _ _ ?_ ?_
      · rw [HA.out]; kernel_rfl
      · exact ⟨fb, fk, fs, oX, oY, rR, (fun _ => rfl), f1, f2, f3, f4, f5, f6, f7, f8, f9, f10, s11⟩
    refine StepsU.run rfl ?_ ?_
    · intro L U wr hF hlk haf A K hA hK
      have HA : Hid (A = putAll _ _ U) := hA
      clear hA
      simp [Aft, Region.binds] at haf
      obtain ⟨fb, fk, fs, oX, oY, rR, f0, f1, f2, f3, f4, f5, f6, f7, f8, f9, f10, s11⟩ := hF
      have g0 := f0 (by simp [haf])
      have e5 := rd HA.out 5 (by kernel_rfl) g0
      obtain ⟨c0, c1, c2, c3⟩ := oX.four
      refine ⟨?_⟩
      go_simp
      refine hK (upd U 6 (.agg #[.bool xX, .slice aX nX cX])) _ _ ?_ ?_
      · rw [HA.out]; kernel_rfl
      · exact ⟨fb, fk, fs, oX, oY, rR, f0, (fun _ => rfl), f2, f3, f4, f5, f6, f7, f8, f9, f10, s11⟩
    refine StepsU.run rfl ?_ ?_
    · intro L U wr hF hlk haf A K hA hK
      have HA : Hid (A = putAll _ _ U) := hA
      clear hA
      simp [Aft, Region.binds] at haf
      obtain ⟨fb, fk, fs, oX, oY, rR, f0, f1, f2, f3, f4, f5, f6, f7, f8, f9, f10, s11⟩ := hF
      have e3 : A.tmps[3]? = some (.pointer (some ⟨w.heap.size + 1, 0, none⟩)) := by rw [HA.out]; kernel_rfl
      refine ⟨?_⟩
      go_simp
      refine hK (upd U 7 (.pointer (some ⟨w.heap.size + 1, 0, none⟩))) _ _ ?_ ?_
      · rw [HA.out]; kernel_rfl
      · exact ⟨fb, fk, fs, oX, oY, rR, f0, f1, (fun _ => rfl), f3, f4, f5, f6, f7, f8, f9, f10, s11⟩
    refine StepsU.run rfl ?_ ?_
    · intro L U wr hF hlk haf A K hA hK
      have HA : Hid (A = putAll _ _ U) := hA
      clear hA
      simp [Aft, Region.binds] at haf
      obtain ⟨fb, fk, fs, oX, oY, rR, f0, f1, f2, f3, f4, f5, f6, f7, f8, f9, f10, s11⟩ := hF
      have g2 := f2 (by simp [haf])
      have e7 := rd HA.out 7 (by kernel_rfl) g2
      obtain ⟨c0, c1, c2, c3⟩ := oY.four
      refine ⟨?_⟩
      go_simp
      refine hK (upd U 8 (.agg #[.bool xY, .slice aY nY cY])) _ _ ?_ ?_
      · rw [HA.out]; kernel_rfl
      · exact ⟨fb, fk, fs, oX, oY, rR, f0, f1, f2, (fun _ => rfl), f4, f5, f6, f7, f8, f9, f10, s11⟩
    refine StepsU.run rfl ?_ ?_
    · intro L U wr hF hlk haf A K hA hK
      have HA : Hid (A = putAll _ _ U) := hA
      clear hA
      simp [Aft, Region.binds] at haf
      obtain ⟨fb, fk, fs, oX, oY, rR, f0, f1, f2, f3, f4, f5, f6, f7, f8, f9, f10, s11⟩ := hF
      have g1 := f1 (by simp [haf])
      have e6 := rd HA.out 6 (by kernel_rfl) g1
      have g3 := f3 (by simp [haf])
      have e8 := rd HA.out 8 (by kernel_rfl) g3
      refine ⟨?_⟩
      go_simp
      refine (rMul_any _ _ x1.num y1.num _ 400 400 _ (hX.1.keepI fk) (hY.1.keepI fk) (by decide) rfl).mono ?_
      rintro e w1 ⟨u1, u2, u3, u4, rfl, hr, hb⟩
      go_simp
      refine hK (upd U 9 (.agg #[.bool u1, .slice u2 u3 u4])) _ _ ?_ ?_
      · rw [HA.out]; kernel_rfl
      · exact ⟨(fb.step hb (Nat.le_refl _)), (fk.trans (KeepI.below hb)), (Nat.le_trans fs hb.size), (oX.stay hb), (oY.stay hb), (rR.stay hb), (mv mo_is (KeepI.below hb) f0), (mv mo_is (KeepI.below hb) f1), (mv mo_is (KeepI.below hb) f2), (mv mo_is (KeepI.below hb) f3), (fun _ => hr), (mv mo_is (KeepI.below hb) f5), (mv mo_rnm (KeepI.below hb) f6), (mv mo_is (KeepI.below hb) f7), (mv mo_rnm (KeepI.below hb) f8), (mv mo_rnm (KeepI.below hb) f9), (mv mo_rrt (KeepI.below hb) f10), s11⟩
    refine StepsU.run rfl ?_ ?_
    · intro L U wr hF hlk haf A K hA hK
      have HA : Hid (A = putAll _ _ U) := hA
      clear hA
      simp [Aft, Region.binds] at haf
      obtain ⟨fb, fk, fs, oX, oY, rR, f0, f1, f2, f3, f4, f5, f6, f7, f8, f9, f10, s11⟩ := hF
      have e2 : A.tmps[2]? = some (.pointer (some ⟨w.heap.size, 0, none⟩)) := by rw [HA.out]; kernel_rfl
      obtain ⟨c0, c1, c2, c3⟩ := oX.four
      refine ⟨?_⟩
      go_simp
      refine hK (upd U 10 (.agg #[.bool xX, .slice aX nX cX, .bool yX, .slice eX mX fX])) _ _ ?_ ?_
      · rw [HA.out]; kernel_rfl
      · exact ⟨fb, fk, fs, oX, oY, rR, f0, f1, f2, f3, f4, (fun _ => rfl), f6, f7, f8, f9, f10, s11⟩
    refine StepsU.run rfl ?_ ?_
    · intro L U wr hF hlk haf A K hA hK
      have HA : Hid (A = putAll _ _ U) := hA
      clear hA
      simp [Aft, Region.binds] at haf
      obtain ⟨fb, fk, fs, oX, oY, rR, f0, f1, f2, f3, f4, f5, f6, f7, f8, f9, f10, s11⟩ := hF
      have g5 := f5 (by simp [haf])
      have e10 := rd HA.out 10 (by kernel_rfl) g5
      refine ⟨?_⟩
      go_simp
      refine (low_any _ x1 400 _ (hX.val.keepI fk) (by decide)).mono ?_
      rintro e w1 ⟨u1, u2, u3, u4, rfl, hr, hb⟩
      go_simp
      refine hK (upd U 11 (.agg #[.bool u1, .slice u2 u3 u4])) _ _ ?_ ?_
      · rw [HA.out]; kernel_rfl
      · exact ⟨(fb.step hb (Nat.le_refl _)), (fk.trans (KeepI.below hb)), (Nat.le_trans fs hb.size), (oX.stay hb), (oY.stay hb), (rR.stay hb), (mv mo_is (KeepI.below hb) f0), (mv mo_is (KeepI.below hb) f1), (mv mo_is (KeepI.below hb) f2), (mv mo_is (KeepI.below hb) f3), (mv mo_rnm (KeepI.below hb) f4), (mv mo_is (KeepI.below hb) f5), (fun _ => hr), (mv mo_is (KeepI.below hb) f7), (mv mo_rnm (KeepI.below hb) f8), (mv mo_rnm (KeepI.below hb) f9), (mv mo_rrt (KeepI.below hb) f10), s11⟩
    refine StepsU.run rfl ?_ ?_
    · intro L U wr hF hlk haf A K hA hK
      have HA : Hid (A = putAll _ _ U) := hA
      clear hA
      simp [Aft, Region.binds] at haf
      obtain ⟨fb, fk, fs, oX, oY, rR, f0, f1, f2, f3, f4, f5, f6, f7, f8, f9, f10, s11⟩ := hF
      have e3 : A.tmps[3]? = some (.pointer (some ⟨w.heap.size + 1, 0, none⟩)) := by rw [HA.out]; kernel_rfl
      obtain ⟨c0, c1, c2, c3⟩ := oY.four
      refine ⟨?_⟩
      go_simp
      refine hK (upd U 12 (.agg #[.bool xY, .slice aY nY cY, .bool yY, .slice eY mY fY])) _ _ ?_ ?_
      · rw [HA.out]; kernel_rfl
      · exact ⟨fb, fk, fs, oX, oY, rR, f0, f1, f2, f3, f4, f5, f6, (fun _ => rfl), f8, f9, f10, s11⟩
    refine StepsU.run rfl ?_ ?_
    · intro L U wr hF hlk haf A K hA hK
      have HA : Hid (A = putAll _ _ U) := hA
      clear hA
      simp [Aft, Region.binds] at haf
      obtain ⟨fb, fk, fs, oX, oY, rR, f0, f1, f2, f3, f4, f5, f6, f7, f8, f9, f10, s11⟩ := hF
      have g7 := f7 (by simp [haf])
      have e12 := rd HA.out 12 (by kernel_rfl) g7
      refine ⟨?_⟩
      go_simp
      refine (low_any _ y1 400 _ (hY.val.keepI fk) (by decide)).mono ?_
      rintro e w1 ⟨u1, u2, u3, u4, rfl, hr, hb⟩
      go_simp
      refine hK (upd U 13 (.agg #[.bool u1, .slice u2 u3 u4])) _ _ ?_ ?_
      · rw [HA.out]; kernel_rfl
      · exact ⟨(fb.step hb (Nat.le_refl _)), (fk.trans (KeepI.below hb)), (Nat.le_trans fs hb.size), (oX.stay hb), (oY.stay hb), (rR.stay hb), (mv mo_is (KeepI.below hb) f0), (mv mo_is (KeepI.below hb) f1), (mv mo_is (KeepI.below hb) f2), (mv mo_is (KeepI.below hb) f3), (mv mo_rnm (KeepI.below hb) f4), (mv mo_is (KeepI.below hb) f5), (mv mo_rnm (KeepI.below hb) f6), (mv mo_is (KeepI.below hb) f7), (fun _ => hr), (mv mo_rnm (KeepI.below hb) f9), (mv mo_rrt (KeepI.below hb) f10), s11⟩
    refine StepsU.run rfl ?_ ?_
    · intro L U wr hF hlk haf A K hA hK
      have HA : Hid (A = putAll _ _ U) := hA
      clear hA
      simp [Aft, Region.binds] at haf
      obtain ⟨fb, fk, fs, oX, oY, rR, f0, f1, f2, f3, f4, f5, f6, f7, f8, f9, f10, s11⟩ := hF
      have g6 := f6 (by simp [haf])
      have e11 := rd HA.out 11 (by kernel_rfl) rfl
      have g8 := f8 (by simp [haf])
      have e13 := rd HA.out 13 (by kernel_rfl) rfl
      refine ⟨?_⟩
      go_simp
      refine (rMul_any _ _ (x1.den : Int) (y1.den : Int) _ 400 400 _ g6 g8 (by decide) rfl).mono ?_
      rintro e w1 ⟨u1, u2, u3, u4, rfl, hr, hb⟩
      go_simp
      refine hK (upd U 14 (.agg #[.bool u1, .slice u2 u3 u4])) _ _ ?_ ?_
      · rw [HA.out]; kernel_rfl
      · exact ⟨(fb.step hb (Nat.le_refl _)), (fk.trans (KeepI.below hb)), (Nat.le_trans fs hb.size), (oX.stay hb), (oY.stay hb), (rR.stay hb), (mv mo_is (KeepI.below hb) f0), (mv mo_is (KeepI.below hb) f1), (mv mo_is (KeepI.below hb) f2), (mv mo_is (KeepI.below hb) f3), (mv mo_rnm (KeepI.below hb) f4), (mv mo_is (KeepI.below hb) f5), (mv mo_rnm (KeepI.below hb) f6), (mv mo_is (KeepI.below hb) f7), (mv mo_rnm (KeepI.below hb) f8), (fun _ => hr), (mv mo_rrt (KeepI.below hb) f10), s11⟩
    refine StepsU.run rfl ?_ ?_
    · intro L U wr hF hlk haf A K hA hK
      have HA : Hid (A = putAll _ _ U) := hA
      clear hA
      simp [Aft, Region.binds] at haf
      obtain ⟨fb, fk, fs, oX, oY, rR, f0, f1, f2, f3, f4, f5, f6, f7, f8, f9, f10, s11⟩ := hF
      have g4 := f4 (by simp [haf])
      have e9 := rd HA.out 9 (by kernel_rfl) rfl
      have g9 := f9 (by simp [haf])
      have e14 := rd HA.out 14 (by kernel_rfl) rfl
      refine ⟨?_⟩
      go_simp
      refine (rlowest_any _ _ _ _ 801 _ g4 g9 HD.out (by decide)).mono ?_
      rintro e w1 ⟨z1, z2, z3, z4, z5, z6, z7, z8, rfl, hr, hb⟩
      go_simp
      have hs11 : L 11 = false := by cases h : L 11 with | false => rfl | true => rw [s11 h] at hlk; cases hlk
      refine hK (upd U 15 (.agg #[.bool z1, .slice z2 z3 z4, .bool z5, .slice z6 z7 z8])) _ _ ?_ ?_
      · rw [HA.out]; kernel_rfl
      · exact ⟨(fb.step hb (Nat.le_refl _)), (fk.trans (KeepI.below hb)), (Nat.le_trans fs hb.size), (oX.stay hb), (oY.stay hb), (flip_v (P := fun v => BlkV _ _ _ v) hs11 (rR.stay hb)), (mv mo_is (KeepI.below hb) f0), (mv mo_is (KeepI.below hb) f1), (mv mo_is (KeepI.below hb) f2), (mv mo_is (KeepI.below hb) f3), (mv mo_rnm (KeepI.below hb) f4), (mv mo_is (KeepI.below hb) f5), (mv mo_rnm (KeepI.below hb) f6), (mv mo_is (KeepI.below hb) f7), (mv mo_rnm (KeepI.below hb) f8), (mv mo_rnm (KeepI.below hb) f9), (fun _ => hr.val), (fun _ => rfl)⟩
    refine StepsU.run rfl ?_ StepsU.nil
    · intro L U wr hF hlk haf A K hA hK
      have HA : Hid (A = putAll _ _ U) := hA
      clear hA
      simp [Aft, Region.binds] at haf
      obtain ⟨fb, fk, fs, oX, oY, rR, f0, f1, f2, f3, f4, f5, f6, f7, f8, f9, f10, s11⟩ := hF
      have g10 := f10 (by simp [haf])
      obtain ⟨px, pa, pn, pc, qx, qa, qn, qc, hsrc, -⟩ := g10
      have e15 := rd HA.out 15 (by kernel_rfl) hsrc
      have e4 : A.tmps[4]? = some (.pointer (some ⟨w.heap.size + 1 + 1, 0, none⟩)) := by rw [HA.out]; kernel_rfl
      simp only [hlk, cond_false] at rR
      obtain ⟨cs, hcs, hblk⟩ := rR
      injection hcs with hcs
      subst hcs
      obtain ⟨c0, c1, c2, c3⟩ := hblk.four
      obtain ⟨q0, q1, q2, q3⟩ := hblk.frozen4
      refine ⟨?_⟩
      go_simp
      have hk := keepI_four (noI_slice _ _ _) (noI_slice _ _ _) hblk px pa pn pc qx qa qn qc
      refine hK U _ _ ?_ ?_
      · exact HA.out
      · exact ⟨(below_store4 fb geR _ _ _ _), (fk.trans hk), (by simpa using fs), (oX.other4 neRX _ _ _ _), (oY.other4 neRY _ _ _ _), (stored_old hsrc (hblk.over4 _ _ _ _)), (mv mo_is hk f0), (mv mo_is hk f1), (mv mo_is hk f2), (mv mo_is hk f3), (mv mo_rnm hk f4), (mv mo_is hk f5), (mv mo_rnm hk f6), (mv mo_is hk f7), (mv mo_rnm hk f8), (mv mo_rnm hk f9), (mv mo_rrt hk f10), (fun _ => by simp [haf])⟩
  intro L U1 V1 hall hF
  have hbw0 := hbw
  clear hbw
  obtain ⟨hbw, fk, fs, oX, oY, rR, f0, f1, f2, f3, f4, f5, f6, f7, f8, f9, f10, s11⟩ := hF
  clear s11
  have g0 := f0 (hall 0 (by decide))
  have g1 := f1 (hall 1 (by decide))
  have g2 := f2 (hall 2 (by decide))
  have g3 := f3 (hall 3 (by decide))
  have g4 := f4 (hall 4 (by decide))
  have g5 := f5 (hall 5 (by decide))
  have g6 := f6 (hall 6 (by decide))
  have g7 := f7 (hall 7 (by decide))
  have g8 := f8 (hall 8 (by decide))
  have g9 := f9 (hall 9 (by decide))
  have g10 := f10 (hall 10 (by decide))
  rw [hall 11 (by decide), cond_true] at rR
  clear hall f0 f1 f2 f3 f4 f5 f6 f7 f8 f9 f10
  replace hX := hX.keepI fk
  replace hY := hY.keepI fk
  replace ltX := Nat.lt_of_lt_of_le ltX fs
  replace ltY := Nat.lt_of_lt_of_le ltY fs
  replace ltR := Nat.lt_of_lt_of_le ltR fs
  clear g0
  clear g1
  clear g2
  clear g3
  clear g4
  clear g5
  clear g6
  clear g7
  clear g8
  clear g9
  clear hbw0
  simp only [setM_some, setM_none, setM_nil]
  clear fk fs
  obtain ⟨cs, hcs, oR⟩ := rR
  obtain ⟨px, pa, pn, pc, qx, qa, qn, qc, hv, hq⟩ := g10
  rw [hv] at hcs
  injection hcs with hcs
  subst hcs
  obtain ⟨r0, r1, r2, r3⟩ := oR.four
  try simp only []
  try go_at_K
  repeat (first | go_values | go_skip | go_guarded | go_step | go_upon)
  refine bodyPost_ret (v := (.agg #[.bool px, .slice pa pn pc, .bool qx, .slice qa qn qc])) (by simp [results, Tryz.results41, go_sem, r0, r1, r2, r3]) rfl ?_
  rw [times_is] at hq
  exact ⟨_, _, _, _, _, _, _, _, rfl, hq, hbw⟩

theorem heC_mul (x y : Rat) : heC (x * y) = mulC x y := rfl
theorem heZ_mul (x y : Rat) : heZ (x * y) = mulZ x y := rfl
set_option maxRecDepth 20000 in
set_option maxHeartbeats 8000000 in
theorem rqmul_he (vX vY : Value) (x1 y1 : Rat) (w : World) (hX : QRV w vX x1 400) (hY : QRV w vY y1 400) :
    Calls Tryz.prog 12 #[vX, vY] w fun e w' => ∃ s1 s2 s3 s4 s5 s6 s7 s8, e = .returned (.tuple #[.agg #[.bool s1, .slice s2 s3 s4, .bool s5, .slice s6 s7 s8], .int .i64 (heC (x1 * y1))]) ∧ QRP w' s1 s2 s3 s4 s5 s6 s7 s8 (heZ (x1 * y1)) (400) ∧ Below w.heap.size w w' := by
  obtain ⟨xX, aX, nX, cX, yX, eX, mX, fX, rfl, hX⟩ := hX
  obtain ⟨xY, aY, nY, cY, yY, eY, mY, fY, rfl, hY⟩ := hY
  have oX := (((Blk.new w 32 #[.bool xX, .slice aX nX cX, .bool yX, .slice eX mX fX]).alloc (.cells #[.bool xY, .slice aY nY cY, .bool yY, .slice eY mY fY] 32 (0, 0))).alloc (.cells #[.bool false, .slice none 0 0, .bool false, .slice none 0 0] 32 (0, 0)))
  have oY := ((Blk.new (w.alloc (.cells #[.bool xX, .slice aX nX cX, .bool yX, .slice eX mX fX] 32 (0, 0))) 32 #[.bool xY, .slice aY nY cY, .bool yY, .slice eY mY fY]).alloc (.cells #[.bool false, .slice none 0 0, .bool false, .slice none 0 0] 32 (0, 0)))
  have oR := (Blk.new ((w.alloc (.cells #[.bool xX, .slice aX nX cX, .bool yX, .slice eX mX fX] 32 (0, 0))).alloc (.cells #[.bool xY, .slice aY nY cY, .bool yY, .slice eY mY fY] 32 (0, 0))) 32 #[.bool false, .slice none 0 0, .bool false, .slice none 0 0])
  simp only [World.size_alloc] at oY oR
  have hbw : Below w.heap.size w (((w.alloc (.cells #[.bool xX, .slice aX nX cX, .bool yX, .slice eX mX fX] 32 (0, 0))).alloc (.cells #[.bool xY, .slice aY nY cY, .bool yY, .slice eY mY fY] 32 (0, 0))).alloc (.cells #[.bool false, .slice none 0 0, .bool false, .slice none 0 0] 32 (0, 0))) := by go_grown
  replace hX := hX.below hbw
  replace hY := hY.below hbw
  have ltX := oX.lt
  have ltY := oY.lt
  have ltR := oR.lt
  go_enter Tryz.func12, Tryz.ntmps12
  obtain ⟨Xc0, Xc1, Xc2, Xc3⟩ := oX.four
  obtain ⟨Xq0, Xq1, Xq2, Xq3⟩ := oX.frozen4
  obtain ⟨Yc0, Yc1, Yc2, Yc3⟩ := oY.four
  obtain ⟨Yq0, Yq1, Yq2, Yq3⟩ := oY.frozen4
  go_wp2_with fail
  refine (rqtimes_any _ _ x1 y1 _ hX.val hY.val).mono ?_
  rintro e w1 ⟨z1, z2, z3, z4, z5, z6, z7, z8, rfl, hZ, hb⟩
  clear Xc0 Xc1 Xc2 Xc3 Xq0 Xq1 Xq2 Xq3
  clear Yc0 Yc1 Yc2 Yc3 Yq0 Yq1 Yq2 Yq3
  replace oX := oX.stay hb
  replace ltX := oX.lt
  replace oY := oY.stay hb
  replace ltY := oY.lt
  replace oR := oR.stay hb
  replace ltR := oR.lt
  replace hX := hX.below hb
  replace hY := hY.below hb
  replace hbw := hbw.step hb (Nat.le_refl _)
  clear hb
  go_wp2_with fail
  refine (rheldq_any _ (x1 * y1) 1632 _ hZ.val (by decide)).mono ?_
  rintro e w2 ⟨v1, v2, v3, v4, v5, v6, v7, v8, rfl, hV, hb⟩
  replace oX := oX.stay hb
  replace ltX := oX.lt
  replace oY := oY.stay hb
  replace ltY := oY.lt
  replace oR := oR.stay hb
  replace ltR := oR.lt
  replace hX := hX.below hb
  replace hY := hY.below hb
  replace hZ := hZ.below hb
  replace hbw := hbw.step hb (Nat.le_refl _)
  clear hb
  obtain ⟨Rc0, Rc1, Rc2, Rc3⟩ := oR.four
  obtain ⟨Rq0, Rq1, Rq2, Rq3⟩ := oR.frozen4
  try simp only []
  try go_at_K
  repeat (first | go_values | go_skip | go_guarded | go_step | go_upon)
  refine bodyPost_ret (v := (.tuple #[.agg #[.bool v1, .slice v2 v3 v4, .bool v5, .slice v6 v7 v8], .int .i64 (heC (x1 * y1))])) (by simp [results, Tryz.results12, go_sem, Rc0, Rc1, Rc2, Rc3]) rfl ?_
  exact ⟨_, _, _, _, _, _, _, _, rfl, hV.keepI (keepI_four (noI_slice _ _ _) (noI_slice _ _ _) oR _ _ _ _ _ _ _ _), below_store4 hbw (by omega) _ _ _ _⟩
theorem rqmul_any (vX vY : Value) (x1 y1 : Rat) (w : World) (hX : QRV w vX x1 400) (hY : QRV w vY y1 400) :
    Calls Tryz.prog 12 #[vX, vY] w fun e w' => ∃ s1 s2 s3 s4 s5 s6 s7 s8, e = .returned (.tuple #[.agg #[.bool s1, .slice s2 s3 s4, .bool s5, .slice s6 s7 s8], .int .i64 (mulC x1 y1)]) ∧ QRP w' s1 s2 s3 s4 s5 s6 s7 s8 (mulZ x1 y1) (400) ∧ Below w.heap.size w w' := by
  have h := rqmul_he vX vY x1 y1 w hX hY
  rw [heC_mul, heZ_mul] at h
  exact h

theorem inv_small {y : Rat} (h : y.num.natAbs < lim ∧ (y.den : Int).natAbs < lim) : (y⁻¹).num.natAbs < lim ∧ ((y⁻¹).den : Int).natAbs < lim := by
  have hw := word_lim
  rw [Rat.num_inv, Rat.den_inv]
  refine ⟨?_, ?_⟩
  · rw [Int.natAbs_mul]
    have : y.num.sign.natAbs ≤ 1 := by
      rcases Int.lt_trichotomy y.num 0 with k | k | k
      · rw [Int.sign_eq_neg_one_of_neg k]; decide
      · rw [k]; decide
      · rw [Int.sign_eq_one_of_pos k]; decide
    have h2 := Nat.mul_le_mul_right (y.den : Int).natAbs this
    omega
  · split
    · simp; omega
    · simpa using h.1
set_option maxRecDepth 20000 in
set_option maxHeartbeats 8000000 in
theorem rquo_any (vX vY : Value) (x1 y1 : Rat) (w : World) (hX : QRV w vX x1 400) (hY : QRV w vY y1 400) (hz' : y1.num.natAbs < lim ∧ (y1.den : Int).natAbs < lim) :
    Calls Tryz.prog 13 #[vX, vY] w fun e w' => ∃ s1 s2 s3 s4 s5 s6 s7 s8, e = .returned (.tuple #[.agg #[.bool s1, .slice s2 s3 s4, .bool s5, .slice s6 s7 s8], .int .i64 (quoC x1 y1)]) ∧ QRP w' s1 s2 s3 s4 s5 s6 s7 s8 (quoZ x1 y1) (400) ∧ Below w.heap.size w w' := by
  obtain ⟨xX, aX, nX, cX, yX, eX, mX, fX, rfl, hX⟩ := hX
  obtain ⟨xY, aY, nY, cY, yY, eY, mY, fY, rfl, hY⟩ := hY
  have HZ : Hid (y1.num.natAbs < lim ∧ (y1.den : Int).natAbs < lim) := hz'
  clear hz'
  have oX := (((Blk.new w 32 #[.bool xX, .slice aX nX cX, .bool yX, .slice eX mX fX]).alloc (.cells #[.bool xY, .slice aY nY cY, .bool yY, .slice eY mY fY] 32 (0, 0))).alloc (.cells #[.bool false, .slice none 0 0, .bool false, .slice none 0 0] 32 (0, 0)))
  have oY := ((Blk.new (w.alloc (.cells #[.bool xX, .slice aX nX cX, .bool yX, .slice eX mX fX] 32 (0, 0))) 32 #[.bool xY, .slice aY nY cY, .bool yY, .slice eY mY fY]).alloc (.cells #[.bool false, .slice none 0 0, .bool false, .slice none 0 0] 32 (0, 0)))
  have oR := (Blk.new ((w.alloc (.cells #[.bool xX, .slice aX nX cX, .bool yX, .slice eX mX fX] 32 (0, 0))).alloc (.cells #[.bool xY, .slice aY nY cY, .bool yY, .slice eY mY fY] 32 (0, 0))) 32 #[.bool false, .slice none 0 0, .bool false, .slice none 0 0])
  simp only [World.size_alloc] at oY oR
  have hbw : Below w.heap.size w (((w.alloc (.cells #[.bool xX, .slice aX nX cX, .bool yX, .slice eX mX fX] 32 (0, 0))).alloc (.cells #[.bool xY, .slice aY nY cY, .bool yY, .slice eY mY fY] 32 (0, 0))).alloc (.cells #[.bool false, .slice none 0 0, .bool false, .slice none 0 0] 32 (0, 0))) := by go_grown
  replace hX := hX.below hbw
  replace hY := hY.below hbw
  have ltX := oX.lt
  have ltY := oY.lt
  have ltR := oR.lt
  go_enter Tryz.func13, Tryz.ntmps13
  go_wp2
  generalize (((w.alloc (.cells #[.bool xX, .slice aX nX cX, .bool yX, .slice eX mX fX] 32 (0, 0))).alloc (.cells #[.bool xY, .slice aY nY cY, .bool yY, .slice eY mY fY] 32 (0, 0))).alloc (.cells #[.bool false, .slice none 0 0, .bool false, .slice none 0 0] 32 (0, 0))) = W0 at hbw oX oY oR ltX ltY ltR hX hY ⊢
  refine wp_region_M (by kernel_rfl) [6, 7, 8, 9, 10, 11, 12, 13, 14, 15] [none, none, none, none, none, none, some 6, some 7, some 8, some 9, some 10, some 11, some 12, some 13, some 14, some 15] (fun U => by kernel_rfl) (fun L U wr => Below w.heap.size w wr ∧ KeepI W0 wr ∧ W0.heap.size ≤ wr.heap.size ∧ Blk 32 wr (w.heap.size) #[.bool xX, .slice aX nX cX, .bool yX, .slice eX mX fX] ∧ Blk 32 wr (w.heap.size + 1) #[.bool xY, .slice aY nY cY, .bool yY, .slice eY mY fY] ∧ Blk 32 wr (w.heap.size + 1 + 1) #[.bool false, .slice none 0 0, .bool false, .slice none 0 0] ∧ (L 0 = true → IS (.agg #[.bool xY, .slice aY nY cY, .bool yY, .slice eY mY fY]) (U 9) wr) ∧ (L 1 = true → RNM (y1.den : Int) 400 (U 10) wr) ∧ (L 2 = true → IS (.pointer (some ⟨w.heap.size + 1, 0, none⟩)) (U 11) wr) ∧ (L 3 = true → IS (.agg #[.bool xY, .slice aY nY cY]) (U 12) wr) ∧ (L 4 = true → T2 (RRT (Rat.divInt (y1.den : Int) y1.num) 830) (IS (.int .i64 (qc0 y1.num))) (U 13) wr) ∧ (L 5 = true → T2 (RRT (Rat.divInt (y1.den : Int) y1.num) 830) (IS (.int .i64 (qc0 y1.num))) (U 8) wr) ∧ (L 6 = true → RRT (Rat.divInt (y1.den : Int) y1.num) 830 (U 14) wr) ∧ (L 7 = true → IS (.int .i64 (qc0 y1.num)) (U 15) wr) ∧ (L 8 = true → NEW 32 W0.heap.size wr (U 6) (bif L 9 then U 14 else .agg #[.bool false, .slice none 0 0, .bool false, .slice none 0 0])) ∧ (L 10 = true → IS (.int .i64 (qc0 y1.num)) (U 7) wr) ∧ (L 9 = true → L 6 = true) ∧ (L 9 = true → L 8 = true)) (by kernel_rfl) ?_ ?_ ?_
  · exact fun U => ⟨hbw.drew, KeepI.below (Below.refl _ _).drew, Nat.le_refl _, oX.drew, oY.drew, oR.drew, (fun h => by cases h), (fun h => by cases h), (fun h => by cases h), (fun h => by cases h), (fun h => by cases h), (fun h => by cases h), (fun h => by cases h), (fun h => by cases h), (fun h => by cases h), (fun h => by cases h), (fun h => by cases h), (fun h => by cases h)⟩
  · refine StepsU.run rfl ?_ ?_
    · intro L U wr hF hlk haf A K hA hK
      have HA : Hid (A = putAll _ _ U) := hA
      clear hA
      simp [Aft, Region.binds] at haf
      obtain ⟨fb, fk, fs, oX, oY, oR, f0, f1, f2, f3, f4, f5, f6, f7, f8, f10, s9, m8⟩ := hF
      have e3 : A.tmps[3]? = some (.pointer (some ⟨w.heap.size + 1, 0, none⟩)) := by rw [HA.out]; kernel_rfl
      obtain ⟨c0, c1, c2, c3⟩ := oY.four
      refine ⟨?_⟩
      go_simp
      refine hK (upd U 9 (.agg #[.bool xY, .slice aY nY cY, .bool yY, .slice eY mY fY])) _ _ ?_ ?_
      · rw [HA.out]; kernel_rfl
      · exact ⟨fb, fk, fs, oX, oY, oR, (fun _ => rfl), f1, f2, f3, f4, f5, f6, f7, f8, f10, s9, m8⟩
    refine StepsU.run rfl ?_ ?_
    · intro L U wr hF hlk haf A K hA hK
      have HA : Hid (A = putAll _ _ U) := hA
      clear hA
      simp [Aft, Region.binds] at haf
      obtain ⟨fb, fk, fs, oX, oY, oR, f0, f1, f2, f3, f4, f5, f6, f7, f8, f10, s9, m8⟩ := hF
      have g0 := f0 (by simp [haf])
      have e9 := rd HA.out 9 (by kernel_rfl) g0
      refine ⟨?_⟩
      go_simp
      refine (low_any _ y1 400 _ (hY.val.keepI fk) (by decide)).mono ?_
      rintro e w1 ⟨u1, u2, u3, u4, rfl, hr, hb⟩
      go_simp
      refine hK (upd U 10 (.agg #[.bool u1, .slice u2 u3 u4])) _ _ ?_ ?_
      · rw [HA.out]; kernel_rfl
      · exact ⟨(fb.step hb (Nat.le_refl _)), (fk.trans (KeepI.below hb)), (Nat.le_trans fs hb.size), (oX.stay hb), (oY.stay hb), (oR.stay hb), (mv mo_is (KeepI.below hb) f0), (fun _ => hr), (mv mo_is (KeepI.below hb) f2), (mv mo_is (KeepI.below hb) f3), (mv (mo_t2 mo_rrt mo_is) (KeepI.below hb) f4), (mv (mo_t2 mo_rrt mo_is) (KeepI.below hb) f5), (mv mo_rrt (KeepI.below hb) f6), (mv mo_is (KeepI.below hb) f7), (fun h => (f8 h).below hb), (mv mo_is (KeepI.below hb) f10), s9, m8⟩
    refine StepsU.run rfl ?_ ?_
    · intro L U wr hF hlk haf A K hA hK
      have HA : Hid (A = putAll _ _ U) := hA
      clear hA
      simp [Aft, Region.binds] at haf
      obtain ⟨fb, fk, fs, oX, oY, oR, f0, f1, f2, f3, f4, f5, f6, f7, f8, f10, s9, m8⟩ := hF
      have e3 : A.tmps[3]? = some (.pointer (some ⟨w.heap.size + 1, 0, none⟩)) := by rw [HA.out]; kernel_rfl
      refine ⟨?_⟩
      go_simp
      refine hK (upd U 11 (.pointer (some ⟨w.heap.size + 1, 0, none⟩))) _ _ ?_ ?_
      · rw [HA.out]; kernel_rfl
      · exact ⟨fb, fk, fs, oX, oY, oR, f0, f1, (fun _ => rfl), f3, f4, f5, f6, f7, f8, f10, s9, m8⟩
    refine StepsU.run rfl ?_ ?_
    · intro L U wr hF hlk haf A K hA hK
      have HA : Hid (A = putAll _ _ U) := hA
      clear hA
      simp [Aft, Region.binds] at haf
      obtain ⟨fb, fk, fs, oX, oY, oR, f0, f1, f2, f3, f4, f5, f6, f7, f8, f10, s9, m8⟩ := hF
      have g2 := f2 (by simp [haf])
      have e11 := rd HA.out 11 (by kernel_rfl) g2
      obtain ⟨c0, c1, c2, c3⟩ := oY.four
      refine ⟨?_⟩
      go_simp
      refine hK (upd U 12 (.agg #[.bool xY, .slice aY nY cY])) _ _ ?_ ?_
      · rw [HA.out]; kernel_rfl
      · exact ⟨fb, fk, fs, oX, oY, oR, f0, f1, f2, (fun _ => rfl), f4, f5, f6, f7, f8, f10, s9, m8⟩
    refine StepsU.run rfl ?_ ?_
    · intro L U wr hF hlk haf A K hA hK
      have HA : Hid (A = putAll _ _ U) := hA
      clear hA
      simp [Aft, Region.binds] at haf
      obtain ⟨fb, fk, fs, oX, oY, oR, f0, f1, f2, f3, f4, f5, f6, f7, f8, f10, s9, m8⟩ := hF
      have g1 := f1 (by simp [haf])
      have e10 := rd HA.out 10 (by kernel_rfl) rfl
      have g3 := f3 (by simp [haf])
      have e12 := rd HA.out 12 (by kernel_rfl) g3
      refine ⟨?_⟩
      go_simp
      refine (rof_any _ _ (y1.den : Int) y1.num 400 _ g1 (hY.1.keepI fk) (by decide)).mono ?_
      rintro e w1 ⟨z1, z2, z3, z4, z5, z6, z7, z8, rfl, hr, hb⟩
      go_simp
      refine hK (upd U 13 (.tuple #[.agg #[.bool z1, .slice z2 z3 z4, .bool z5, .slice z6 z7 z8], .int .i64 (qc0 y1.num)])) _ _ ?_ ?_
      · rw [HA.out]; kernel_rfl
      · exact ⟨(fb.step hb (Nat.le_refl _)), (fk.trans (KeepI.below hb)), (Nat.le_trans fs hb.size), (oX.stay hb), (oY.stay hb), (oR.stay hb), (mv mo_is (KeepI.below hb) f0), (mv mo_rnm (KeepI.below hb) f1), (mv mo_is (KeepI.below hb) f2), (mv mo_is (KeepI.below hb) f3), (fun _ => ⟨_, _, rfl, hr.val, rfl⟩), (mv (mo_t2 mo_rrt mo_is) (KeepI.below hb) f5), (mv mo_rrt (KeepI.below hb) f6), (mv mo_is (KeepI.below hb) f7), (fun h => (f8 h).below hb), (mv mo_is (KeepI.below hb) f10), s9, m8⟩
    refine StepsU.run rfl ?_ ?_
    · intro L U wr hF hlk haf A K hA hK
      have HA : Hid (A = putAll _ _ U) := hA
      clear hA
      simp [Aft, Region.binds] at haf
      obtain ⟨fb, fk, fs, oX, oY, oR, f0, f1, f2, f3, f4, f5, f6, f7, f8, f10, s9, m8⟩ := hF
      have g4 := f4 (by simp [haf])
      have e13 := rd HA.out 13 (by kernel_rfl) rfl
      refine ⟨?_⟩
      go_simp
      refine hK (upd U 8 (U 13)) _ _ ?_ ?_
      · rw [HA.out]; kernel_rfl
      · exact ⟨fb, fk, fs, oX, oY, oR, f0, f1, f2, f3, f4, (fun _ => g4), f6, f7, f8, f10, s9, m8⟩
    refine StepsU.run rfl ?_ ?_
    · intro L U wr hF hlk haf A K hA hK
      have HA : Hid (A = putAll _ _ U) := hA
      clear hA
      simp [Aft, Region.binds] at haf
      obtain ⟨fb, fk, fs, oX, oY, oR, f0, f1, f2, f3, f4, f5, f6, f7, f8, f10, s9, m8⟩ := hF
      have g5 := f5 (by simp [haf])
      obtain ⟨t0, t1, hT, k0, k1⟩ := g5
      have e8 := rd HA.out 8 (by kernel_rfl) hT
      refine ⟨?_⟩
      go_simp
      have hs9 : L 9 = false := by cases h : L 9 with | false => rfl | true => rw [s9 h] at hlk; cases hlk
      refine hK (upd U 14 t0) _ _ ?_ ?_
      · rw [HA.out]; kernel_rfl
      · exact ⟨fb, fk, fs, oX, oY, oR, f0, f1, f2, f3, f4, f5, (fun _ => k0), f7, (fun h => flip_v (P := fun v => NEW _ _ _ _ v) hs9 (f8 h)), f10, (fun _ => rfl), m8⟩
    refine StepsU.run rfl ?_ ?_
    · intro L U wr hF hlk haf A K hA hK
      have HA : Hid (A = putAll _ _ U) := hA
      clear hA
      simp [Aft, Region.binds] at haf
      obtain ⟨fb, fk, fs, oX, oY, oR, f0, f1, f2, f3, f4, f5, f6, f7, f8, f10, s9, m8⟩ := hF
      have g5 := f5 (by simp [haf])
      obtain ⟨t0, t1, hT, k0, k1⟩ := g5
      have e8 := rd HA.out 8 (by kernel_rfl) hT
      refine ⟨?_⟩
      go_simp
      refine hK (upd U 15 t1) _ _ ?_ ?_
      · rw [HA.out]; kernel_rfl
      · exact ⟨fb, fk, fs, oX, oY, oR, f0, f1, f2, f3, f4, f5, f6, (fun _ => k1), f8, f10, s9, m8⟩
    refine StepsU.run rfl ?_ ?_
    · intro L U wr hF hlk haf A K hA hK
      have HA : Hid (A = putAll _ _ U) := hA
      clear hA
      simp [Aft, Region.binds] at haf
      obtain ⟨fb, fk, fs, oX, oY, oR, f0, f1, f2, f3, f4, f5, f6, f7, f8, f10, s9, m8⟩ := hF
      have hst : L 9 = false := by cases h : L 9 with | false => rfl | true => rw [m8 h] at hlk; cases hlk
      refine ⟨?_⟩
      go_simp
      have hb := below_new wr (.cells #[.bool false, .slice none 0 0, .bool false, .slice none 0 0] 32 (0, 0))
      refine hK (upd U 6 (.pointer (some ⟨wr.heap.size, 0, none⟩))) _ _ ?_ ?_
      · rw [HA.out]; kernel_rfl
      · exact ⟨(fb.step hb (Nat.le_refl _)), (fk.trans (KeepI.below hb)), (Nat.le_trans fs hb.size), (oX.stay hb), (oY.stay hb), (oR.stay hb), (mv mo_is (KeepI.below hb) f0), (mv mo_rnm (KeepI.below hb) f1), (mv mo_is (KeepI.below hb) f2), (mv mo_is (KeepI.below hb) f3), (mv (mo_t2 mo_rrt mo_is) (KeepI.below hb) f4), (mv (mo_t2 mo_rrt mo_is) (KeepI.below hb) f5), (mv mo_rrt (KeepI.below hb) f6), (mv mo_is (KeepI.below hb) f7), (fun _ => new_zero hst (NEW.mk fs (noI4 _ _ _ _ _ _ _ _))), (mv mo_is (KeepI.below hb) f10), s9, (fun _ => rfl)⟩
    refine StepsU.run rfl ?_ ?_
    · intro L U wr hF hlk haf A K hA hK
      have HA : Hid (A = putAll _ _ U) := hA
      clear hA
      simp [Aft, Region.binds] at haf
      obtain ⟨fb, fk, fs, oX, oY, oR, f0, f1, f2, f3, f4, f5, f6, f7, f8, f10, s9, m8⟩ := hF
      have g6 := f6 (by simp [haf])
      obtain ⟨px, pa, pn, pc, qx, qa, qn, qc, hsrc, -⟩ := g6
      have e14 := rd HA.out 14 (by kernel_rfl) hsrc
      have gA := f8 (by simp [haf])
      simp only [hlk, cond_false] at gA
      obtain ⟨b, cs, hp, hBb, hcs, hblk, -⟩ := gA
      injection hcs with hcs
      subst hcs
      have e6 := rd HA.out 6 (by kernel_rfl) hp
      obtain ⟨c0, c1, c2, c3⟩ := hblk.four
      obtain ⟨q0, q1, q2, q3⟩ := hblk.frozen4
      refine ⟨?_⟩
      go_simp
      have hk := keepI_four (noI_slice _ _ _) (noI_slice _ _ _) hblk px pa pn pc qx qa qn qc
      refine hK U _ _ ?_ ?_
      · exact HA.out
      · exact ⟨(below_store4 fb (Nat.le_trans hbw.size hBb) _ _ _ _), (fk.trans hk), (by simpa using fs), (oX.other4 (Nat.ne_of_gt (Nat.lt_of_lt_of_le ltX hBb)) _ _ _ _), (oY.other4 (Nat.ne_of_gt (Nat.lt_of_lt_of_le ltY hBb)) _ _ _ _), (oR.other4 (Nat.ne_of_gt (Nat.lt_of_lt_of_le ltR hBb)) _ _ _ _), (mv mo_is hk f0), (mv mo_rnm hk f1), (mv mo_is hk f2), (mv mo_is hk f3), (mv (mo_t2 mo_rrt mo_is) hk f4), (mv (mo_t2 mo_rrt mo_is) hk f5), (mv mo_rrt hk f6), (mv mo_is hk f7), (fun _ => stored_new hp hsrc (NEW.over4 hBb hblk px pa pn pc qx qa qn qc)), (mv mo_is hk f10), (fun _ => by simp [haf]), (fun _ => by simp [haf])⟩
    refine StepsU.run rfl ?_ StepsU.nil
    · intro L U wr hF hlk haf A K hA hK
      have HA : Hid (A = putAll _ _ U) := hA
      clear hA
      simp [Aft, Region.binds] at haf
      obtain ⟨fb, fk, fs, oX, oY, oR, f0, f1, f2, f3, f4, f5, f6, f7, f8, f10, s9, m8⟩ := hF
      have g7 := f7 (by simp [haf])
      have e15 := rd HA.out 15 (by kernel_rfl) rfl
      refine ⟨?_⟩
      go_simp
      refine hK (upd U 7 (U 15)) _ _ ?_ ?_
      · rw [HA.out]; kernel_rfl
      · exact ⟨fb, fk, fs, oX, oY, oR, f0, f1, f2, f3, f4, f5, f6, f7, f8, (fun _ => g7), s9, m8⟩
  intro L U1 V1 hall hF
  have hbw0 := hbw
  clear hbw
  obtain ⟨hbw, fk, fs, oX, oY, oR, f0, f1, f2, f3, f4, f5, f6, f7, f8, f10, s9, m8⟩ := hF
  clear s9 m8
  have g0 := f0 (hall 0 (by decide))
  have g1 := f1 (hall 1 (by decide))
  have g2 := f2 (hall 2 (by decide))
  have g3 := f3 (hall 3 (by decide))
  have g4 := f4 (hall 4 (by decide))
  have g5 := f5 (hall 5 (by decide))
  have g6 := f6 (hall 6 (by decide))
  have g7 := f7 (hall 7 (by decide))
  have g8 := f8 (hall 8 (by decide))
  rw [hall 9 (by decide), cond_true] at g8
  have g10 := f10 (hall 10 (by decide))
  clear hall f0 f1 f2 f3 f4 f5 f6 f7 f8 f10
  replace hX := hX.keepI fk
  replace hY := hY.keepI fk
  obtain ⟨bV, csV, hpV, lbV, hcsV, oV, -⟩ := g8
  obtain ⟨xV, aV, nV, cV, yV, eV, mV, fV, hvV, hV⟩ := g6
  rw [hvV] at hcsV
  injection hcsV with hcsV
  subst hcsV
  have ltV := oV.lt
  have neXV : w.heap.size ≠ bV := Nat.ne_of_lt (Nat.lt_of_lt_of_le ltX lbV)
  have neYV : w.heap.size + 1 ≠ bV := Nat.ne_of_lt (Nat.lt_of_lt_of_le ltY lbV)
  have neRV : w.heap.size + 1 + 1 ≠ bV := Nat.ne_of_lt (Nat.lt_of_lt_of_le ltR lbV)
  have lwV : w.heap.size ≤ bV := Nat.le_trans hbw0.size lbV
  clear lbV
  replace ltX := Nat.lt_of_lt_of_le ltX fs
  replace ltY := Nat.lt_of_lt_of_le ltY fs
  replace ltR := Nat.lt_of_lt_of_le ltR fs
  clear g0
  clear g1
  clear g2
  clear g3
  clear g4
  clear g5
  clear g7
  clear hbw0
  simp only [setM_some, setM_none, setM_nil]
  rw [hpV]
  clear hpV hvV
  clear fk fs
  have eC : U1 7 = _ := g10
  clear g10
  rw [eC]
  clear eC
  by_cases g0 : y1 = 0
  · have HC : Hid (quoC x1 y1 = 12 ∧ quoZ x1 y1 = 0) := ⟨if_pos g0, if_pos g0⟩
    have E0 : qc0 y1.num = 12 := if_pos (num_zero.2 g0)
    clear g0
    rw [E0]
    obtain ⟨Rc0, Rc1, Rc2, Rc3⟩ := oR.four
    obtain ⟨Rq0, Rq1, Rq2, Rq3⟩ := oR.frozen4
    try simp only []
    try go_at_K
    repeat (first | go_values | go_skip | go_guarded | go_step | go_upon)
    refine bodyPost_ret (v := (.tuple #[.agg #[.bool false, .slice none 0 0, .bool false, .slice none 0 0], .int .i64 12])) (by simp [results, Tryz.results13, go_sem, Rc0, Rc1, Rc2, Rc3]) rfl ?_
    refine ⟨_, _, _, _, _, _, _, _, by rw [HC.out.1], ?_, ?_⟩
    · rw [HC.out.2]; exact QRP.zero
    · first | exact hbw | exact below_store4 hbw (by omega) _ _ _ _
  · have HC : Hid (quoC x1 y1 = mulC x1 y1⁻¹ ∧ quoZ x1 y1 = mulZ x1 y1⁻¹) := ⟨if_neg g0, if_neg g0⟩
    have E0 : qc0 y1.num = 0 := if_neg (fun h => g0 (num_zero.1 h))
    clear g0
    rw [E0]
    rw [inv_is] at hV
    replace hV := hV.small (inv_small HZ.out).1 (inv_small HZ.out).2
    obtain ⟨Xc0, Xc1, Xc2, Xc3⟩ := oX.four
    obtain ⟨Xq0, Xq1, Xq2, Xq3⟩ := oX.frozen4
    obtain ⟨Vc0, Vc1, Vc2, Vc3⟩ := oV.four
    obtain ⟨Vq0, Vq1, Vq2, Vq3⟩ := oV.frozen4
    go_wp2_with fail
    refine (rqmul_any _ _ x1 y1⁻¹ _ hX.val hV.val).mono ?_
    rintro e w2 ⟨k1, k2, k3, k4, k5, k6, k7, k8, rfl, hQ, hb⟩
    clear Xc0 Xc1 Xc2 Xc3 Xq0 Xq1 Xq2 Xq3
    clear Vc0 Vc1 Vc2 Vc3 Vq0 Vq1 Vq2 Vq3
    replace oX := oX.stay hb
    replace ltX := oX.lt
    replace oY := oY.stay hb
    replace ltY := oY.lt
    replace oR := oR.stay hb
    replace ltR := oR.lt
    replace oV := oV.stay hb
    replace ltV := oV.lt
    replace hX := hX.below hb
    replace hY := hY.below hb
    replace hV := hV.below hb
    replace hbw := hbw.step hb (Nat.le_refl _)
    clear hb
    obtain ⟨Rc0, Rc1, Rc2, Rc3⟩ := oR.four
    obtain ⟨Rq0, Rq1, Rq2, Rq3⟩ := oR.frozen4
    try simp only []
    try go_at_K
    repeat (first | go_values | go_skip | go_guarded | go_step | go_upon)
    refine bodyPost_ret (v := (.tuple #[.agg #[.bool k1, .slice k2 k3 k4, .bool k5, .slice k6 k7 k8], .int .i64 (mulC x1 y1⁻¹)])) (by simp [results, Tryz.results13, go_sem, Rc0, Rc1, Rc2, Rc3]) rfl ?_
    refine ⟨_, _, _, _, _, _, _, _, by rw [HC.out.1], ?_, below_store4 hbw (by omega) _ _ _ _⟩
    rw [HC.out.2]
    exact hQ.keepI (keepI_four (noI_slice _ _ _) (noI_slice _ _ _) oR _ _ _ _ _ _ _ _)

end Go.Proofs.YtidpbdhhbeaijaaGreat
