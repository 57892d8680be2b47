/- Contracts of ratio's Inv, reduced, Mul, Quo and Sub; they prove no statement of the seat. -/
import Derived.Test.YtidpbdhhbeaijaaGreatQ4JReckons
namespace Go.Proofs.YtidpbdhhbeaijaaGreat
open Go.RowKit

set_option maxRecDepth 20000 in
set_option maxHeartbeats 8000000 in
theorem inv_any (vX : Value) (q : Rat) (w : World) (hX : QV w vX q) :
    Calls Tryz.prog 31 #[vX] w fun e w' => ∃ s1 s2 s3 s4 s5 s6 s7 s8, e = .returned (.tuple #[.agg #[.bool s1, .slice s2 s3 s4, .bool s5, .slice s6 s7 s8], .int .i64 (qc0 q.num)]) ∧ QP w' s1 s2 s3 s4 s5 s6 s7 s8 (q⁻¹) ∧ Below w.heap.size w w' := by
  obtain ⟨xX, aX, nX, cX, yX, eX, mX, fX, rfl, hX⟩ := hX
  have oX := ((Blk.new w 27 #[.bool xX, .slice aX nX cX, .bool yX, .slice eX mX fX]).alloc (.cells #[.bool false, .slice none 0 0, .bool false, .slice none 0 0] 27 (0, 0)))
  have oR := (Blk.new (w.alloc (.cells #[.bool xX, .slice aX nX cX, .bool yX, .slice eX mX fX] 27 (0, 0))) 27 #[.bool false, .slice none 0 0, .bool false, .slice none 0 0])
  simp only [World.size_alloc] at oR
  have hbw : Below w.heap.size w ((w.alloc (.cells #[.bool xX, .slice aX nX cX, .bool yX, .slice eX mX fX] 27 (0, 0))).alloc (.cells #[.bool false, .slice none 0 0, .bool false, .slice none 0 0] 27 (0, 0))) := by go_grown
  replace hX := hX.below hbw
  have ltX := oX.lt
  have ltR := oR.lt
  go_enter Tryz.func31, Tryz.ntmps31
  go_wp2
  generalize ((w.alloc (.cells #[.bool xX, .slice aX nX cX, .bool yX, .slice eX mX fX] 27 (0, 0))).alloc (.cells #[.bool false, .slice none 0 0, .bool false, .slice none 0 0] 27 (0, 0))) = W0 at hbw oX oR ltX ltR hX ⊢
  have rR := oR
  clear oR
  have geR : w.heap.size ≤ w.heap.size + 1 := by omega
  have neRX : w.heap.size + 1 ≠ w.heap.size := by omega
  refine wp_region_M (by kernel_rfl) [3, 4, 5, 6, 7, 8, 9, 10] [none, none, none, some 3, some 4, some 5, some 6, some 7, some 8, some 9, some 10] (fun U => by kernel_rfl) (fun L U wr => Below w.heap.size w wr ∧ KeepI W0 wr ∧ W0.heap.size ≤ wr.heap.size ∧ Blk 27 wr (w.heap.size) #[.bool xX, .slice aX nX cX, .bool yX, .slice eX mX fX] ∧ BlkV 27 wr (w.heap.size + 1) (bif L 7 then U 9 else .agg #[.bool false, .slice none 0 0, .bool false, .slice none 0 0]) ∧ (L 0 = true → IS (.agg #[.bool xX, .slice aX nX cX, .bool yX, .slice eX mX fX]) (U 4) wr) ∧ (L 1 = true → INT (q.den : Int) (U 5) wr) ∧ (L 2 = true → IS (.pointer (some ⟨w.heap.size, 0, none⟩)) (U 6) wr) ∧ (L 3 = true → IS (.agg #[.bool xX, .slice aX nX cX]) (U 7) wr) ∧ (L 4 = true → T2 (RAT (Rat.divInt (q.den : Int) q.num)) (IS (.int .i64 (qc0 q.num))) (U 8) wr) ∧ (L 5 = true → RAT (Rat.divInt (q.den : Int) q.num) (U 9) wr) ∧ (L 6 = true → IS (.int .i64 (qc0 q.num)) (U 10) wr) ∧ (L 8 = true → IS (.int .i64 (qc0 q.num)) (U 3) wr) ∧ (L 7 = true → L 5 = true)) (by kernel_rfl) ?_ ?_ ?_
  · exact fun U => ⟨hbw.drew, KeepI.below (Below.refl _ _).drew, Nat.le_refl _, oX.drew, ⟨_, rfl, rR.drew⟩, (fun h => by cases h), (fun h => by cases h), (fun h => by cases h), (fun h => by cases h), (fun h => by cases h), (fun h => by cases h), (fun h => by cases h), (fun h => by cases h), (fun h => by cases h)⟩
  · refine StepsU.run rfl ?_ ?_
    · intro L U wr hF hlk haf A K hA hK
      have HA : Hid (A = putAll _ _ U) := hA
      clear hA
      simp [Aft, Region.binds] at haf
      obtain ⟨fb, fk, fs, oX, rR, f0, f1, f2, f3, f4, f5, f6, f8, s7⟩ := hF
      have e1 : A.tmps[1]? = some (.pointer (some ⟨w.heap.size, 0, none⟩)) := by rw [HA.out]; kernel_rfl
      obtain ⟨c0, c1, c2, c3⟩ := oX.four
      refine ⟨?_⟩
      go_simp
      refine hK (upd U 4 (.agg #[.bool xX, .slice aX nX cX, .bool yX, .slice eX mX fX])) _ _ ?_ ?_
      · rw [HA.out]; kernel_rfl
      · exact ⟨fb, fk, fs, oX, rR, (fun _ => rfl), f1, f2, f3, f4, f5, f6, f8, s7⟩
    refine StepsU.run rfl ?_ ?_
    · intro L U wr hF hlk haf A K hA hK
      have HA : Hid (A = putAll _ _ U) := hA
      clear hA
      simp [Aft, Region.binds] at haf
      obtain ⟨fb, fk, fs, oX, rR, f0, f1, f2, f3, f4, f5, f6, f8, s7⟩ := hF
      have g0 := f0 (by simp [haf])
      have e4 := rd HA.out 4 (by kernel_rfl) g0
      refine ⟨?_⟩
      go_simp
      refine (den_any _ q _ (hX.val.keepI fk)).mono ?_
      rintro e w1 ⟨u1, u2, u3, u4, rfl, hr, hb⟩
      go_simp
      refine hK (upd U 5 (.agg #[.bool u1, .slice u2 u3 u4])) _ _ ?_ ?_
      · rw [HA.out]; kernel_rfl
      · exact ⟨(fb.step hb (Nat.le_refl _)), (fk.trans (KeepI.below hb)), (Nat.le_trans fs hb.size), (oX.stay hb), (rR.stay hb), (mv mo_is (KeepI.below hb) f0), (fun _ => hr), (mv mo_is (KeepI.below hb) f2), (mv mo_is (KeepI.below hb) f3), (mv (mo_t2 mo_rat mo_is) (KeepI.below hb) f4), (mv mo_rat (KeepI.below hb) f5), (mv mo_is (KeepI.below hb) f6), (mv mo_is (KeepI.below hb) f8), s7⟩
    refine StepsU.run rfl ?_ ?_
    · intro L U wr hF hlk haf A K hA hK
      have HA : Hid (A = putAll _ _ U) := hA
      clear hA
      simp [Aft, Region.binds] at haf
      obtain ⟨fb, fk, fs, oX, rR, f0, f1, f2, f3, f4, f5, f6, f8, s7⟩ := hF
      have e1 : A.tmps[1]? = some (.pointer (some ⟨w.heap.size, 0, none⟩)) := by rw [HA.out]; kernel_rfl
      refine ⟨?_⟩
      go_simp
      refine hK (upd U 6 (.pointer (some ⟨w.heap.size, 0, none⟩))) _ _ ?_ ?_
      · rw [HA.out]; kernel_rfl
      · exact ⟨fb, fk, fs, oX, rR, f0, f1, (fun _ => rfl), f3, f4, f5, f6, f8, s7⟩
    refine StepsU.run rfl ?_ ?_
    · intro L U wr hF hlk haf A K hA hK
      have HA : Hid (A = putAll _ _ U) := hA
      clear hA
      simp [Aft, Region.binds] at haf
      obtain ⟨fb, fk, fs, oX, rR, f0, f1, f2, f3, f4, f5, f6, f8, s7⟩ := hF
      have g2 := f2 (by simp [haf])
      have e6 := rd HA.out 6 (by kernel_rfl) g2
      obtain ⟨c0, c1, c2, c3⟩ := oX.four
      refine ⟨?_⟩
      go_simp
      refine hK (upd U 7 (.agg #[.bool xX, .slice aX nX cX])) _ _ ?_ ?_
      · rw [HA.out]; kernel_rfl
      · exact ⟨fb, fk, fs, oX, rR, f0, f1, f2, (fun _ => rfl), f4, f5, f6, f8, s7⟩
    refine StepsU.run rfl ?_ ?_
    · intro L U wr hF hlk haf A K hA hK
      have HA : Hid (A = putAll _ _ U) := hA
      clear hA
      simp [Aft, Region.binds] at haf
      obtain ⟨fb, fk, fs, oX, rR, f0, f1, f2, f3, f4, f5, f6, f8, s7⟩ := hF
      have g1 := f1 (by simp [haf])
      have e5 := rd HA.out 5 (by kernel_rfl) rfl
      have g3 := f3 (by simp [haf])
      have e7 := rd HA.out 7 (by kernel_rfl) g3
      refine ⟨?_⟩
      go_simp
      refine (of_any _ _ (q.den : Int) q.num _ g1 (hX.1.keepI fk)).mono ?_
      rintro e w1 ⟨j1, j2, j3, j4, j5, j6, j7, j8, rfl, hr, hb⟩
      go_simp
      refine hK (upd U 8 (.tuple #[.agg #[.bool j1, .slice j2 j3 j4, .bool j5, .slice j6 j7 j8], .int .i64 (qc0 q.num)])) _ _ ?_ ?_
      · rw [HA.out]; kernel_rfl
      · exact ⟨(fb.step hb (Nat.le_refl _)), (fk.trans (KeepI.below hb)), (Nat.le_trans fs hb.size), (oX.stay hb), (rR.stay hb), (mv mo_is (KeepI.below hb) f0), (mv mo_int (KeepI.below hb) f1), (mv mo_is (KeepI.below hb) f2), (mv mo_is (KeepI.below hb) f3), (fun _ => ⟨_, _, rfl, hr.val, rfl⟩), (mv mo_rat (KeepI.below hb) f5), (mv mo_is (KeepI.below hb) f6), (mv mo_is (KeepI.below hb) f8), s7⟩
    refine StepsU.run rfl ?_ ?_
    · intro L U wr hF hlk haf A K hA hK
      have HA : Hid (A = putAll _ _ U) := hA
      clear hA
      simp [Aft, Region.binds] at haf
      obtain ⟨fb, fk, fs, oX, rR, f0, f1, f2, f3, f4, f5, f6, f8, s7⟩ := hF
      have g4 := f4 (by simp [haf])
      obtain ⟨t0, t1, hT, k0, k1⟩ := g4
      have e8 := rd HA.out 8 (by kernel_rfl) hT
      refine ⟨?_⟩
      go_simp
      have hs7 : L 7 = false := by cases h : L 7 with | false => rfl | true => rw [s7 h] at hlk; cases hlk
      refine hK (upd U 9 t0) _ _ ?_ ?_
      · rw [HA.out]; kernel_rfl
      · exact ⟨fb, fk, fs, oX, (flip_v (P := fun v => BlkV _ _ _ v) hs7 rR), f0, f1, f2, f3, f4, (fun _ => k0), f6, f8, (fun _ => rfl)⟩
    refine StepsU.run rfl ?_ ?_
    · intro L U wr hF hlk haf A K hA hK
      have HA : Hid (A = putAll _ _ U) := hA
      clear hA
      simp [Aft, Region.binds] at haf
      obtain ⟨fb, fk, fs, oX, rR, f0, f1, f2, f3, f4, f5, f6, f8, s7⟩ := hF
      have g4 := f4 (by simp [haf])
      obtain ⟨t0, t1, hT, k0, k1⟩ := g4
      have e8 := rd HA.out 8 (by kernel_rfl) hT
      refine ⟨?_⟩
      go_simp
      refine hK (upd U 10 t1) _ _ ?_ ?_
      · rw [HA.out]; kernel_rfl
      · exact ⟨fb, fk, fs, oX, rR, f0, f1, f2, f3, f4, f5, (fun _ => k1), f8, s7⟩
    refine StepsU.run rfl ?_ ?_
    · intro L U wr hF hlk haf A K hA hK
      have HA : Hid (A = putAll _ _ U) := hA
      clear hA
      simp [Aft, Region.binds] at haf
      obtain ⟨fb, fk, fs, oX, rR, f0, f1, f2, f3, f4, f5, f6, f8, s7⟩ := hF
      have g5 := f5 (by simp [haf])
      obtain ⟨px, pa, pn, pc, qx, qa, qn, qc, hsrc, -⟩ := g5
      have e9 := rd HA.out 9 (by kernel_rfl) hsrc
      have e2 : A.tmps[2]? = some (.pointer (some ⟨w.heap.size + 1, 0, none⟩)) := by rw [HA.out]; kernel_rfl
      simp only [hlk, cond_false] at rR
      obtain ⟨cs, hcs, hblk⟩ := rR
      injection hcs with hcs
      subst hcs
      obtain ⟨c0, c1, c2, c3⟩ := hblk.four
      obtain ⟨q0, q1, q2, q3⟩ := hblk.frozen4
      refine ⟨?_⟩
      go_simp
      have hk := keepI_four (noI_slice _ _ _) (noI_slice _ _ _) hblk px pa pn pc qx qa qn qc
      refine hK U _ _ ?_ ?_
      · exact HA.out
      · exact ⟨(below_store4 fb geR _ _ _ _), (fk.trans hk), (by simpa using fs), (oX.other4 neRX _ _ _ _), (stored_old hsrc (hblk.over4 _ _ _ _)), (mv mo_is hk f0), (mv mo_int hk f1), (mv mo_is hk f2), (mv mo_is hk f3), (mv (mo_t2 mo_rat mo_is) hk f4), (mv mo_rat hk f5), (mv mo_is hk f6), (mv mo_is hk f8), (fun _ => by simp [haf])⟩
    refine StepsU.run rfl ?_ StepsU.nil
    · intro L U wr hF hlk haf A K hA hK
      have HA : Hid (A = putAll _ _ U) := hA
      clear hA
      simp [Aft, Region.binds] at haf
      obtain ⟨fb, fk, fs, oX, rR, f0, f1, f2, f3, f4, f5, f6, f8, s7⟩ := hF
      have g6 := f6 (by simp [haf])
      have e10 := rd HA.out 10 (by kernel_rfl) rfl
      refine ⟨?_⟩
      go_simp
      refine hK (upd U 3 (U 10)) _ _ ?_ ?_
      · rw [HA.out]; kernel_rfl
      · exact ⟨fb, fk, fs, oX, rR, f0, f1, f2, f3, f4, f5, f6, (fun _ => g6), s7⟩
  intro L U1 V1 hall hF
  have hbw0 := hbw
  clear hbw
  obtain ⟨hbw, fk, fs, oX, rR, f0, f1, f2, f3, f4, f5, f6, f8, s7⟩ := hF
  clear s7
  have g0 := f0 (hall 0 (by decide))
  have g1 := f1 (hall 1 (by decide))
  have g2 := f2 (hall 2 (by decide))
  have g3 := f3 (hall 3 (by decide))
  have g4 := f4 (hall 4 (by decide))
  have g5 := f5 (hall 5 (by decide))
  have g6 := f6 (hall 6 (by decide))
  have g8 := f8 (hall 8 (by decide))
  rw [hall 7 (by decide), cond_true] at rR
  clear hall f0 f1 f2 f3 f4 f5 f6 f8
  replace hX := hX.keepI fk
  replace ltX := Nat.lt_of_lt_of_le ltX fs
  replace ltR := Nat.lt_of_lt_of_le ltR fs
  clear g0
  clear g1
  clear g2
  clear g3
  clear g4
  clear g6
  clear hbw0
  simp only [setM_some, setM_none, setM_nil]
  clear fk fs
  have gR := g5
  obtain ⟨cs, hcs, oR⟩ := rR
  obtain ⟨px, pa, pn, pc, qx, qa, qn, qc, hv, hq⟩ := gR
  rw [hv] at hcs
  injection hcs with hcs
  subst hcs
  obtain ⟨r0, r1, r2, r3⟩ := oR.four
  have e3 : U1 3 = _ := g8
  try simp only []
  try go_at_K
  repeat (first | go_values | go_skip | go_guarded | go_step | go_upon)
  refine bodyPost_ret (v := (.tuple #[.agg #[.bool px, .slice pa pn pc, .bool qx, .slice qa qn qc], .int .i64 (qc0 q.num)])) (by simp [results, Tryz.results31, go_sem, r0, r1, r2, r3, e3]) rfl ?_
  rw [inv_is] at hq
  exact ⟨_, _, _, _, _, _, _, _, rfl, hq, hbw⟩

set_option maxRecDepth 20000 in
set_option maxHeartbeats 8000000 in
theorem reduced_any (vA vB : Value) (x1 y1 gz1 p1 q1 : Int) (w : World) (hA : AInt w vA x1) (hB : AInt w vB y1) (hg : ((Int.gcd x1 y1 : Nat) : Int) = gz1) (hn : gz1 ≠ 0) (hp : x1.fdiv gz1 = p1) (hq : y1.fdiv gz1 = q1) :
    Calls Tryz.prog 30 #[vA, vB] w fun e w' => ∃ s1 s2 s3 s4 s5 s6 s7 s8, e = .returned (.tuple #[.agg #[.bool s1, .slice s2 s3 s4], .agg #[.bool s5, .slice s6 s7 s8]]) ∧ AInt w' (.agg #[.bool s1, .slice s2 s3 s4]) p1 ∧ AInt w' (.agg #[.bool s5, .slice s6 s7 s8]) q1 ∧ Below w.heap.size w w' := by
  obtain ⟨xA, aA, nA, cA, rfl⟩ := hA.shape
  obtain ⟨xB, aB', nB, cB, rfl⟩ := hB.shape
  have HG : Hid (((Int.gcd x1 y1 : Nat) : Int) = gz1) := hg
  have HN : Hid (gz1 ≠ 0) := hn
  have HP : Hid (x1.fdiv gz1 = p1) := hp
  have HQ : Hid (y1.fdiv gz1 = q1) := hq
  clear hg hn hp hq
  have oA := ((((Blk.new w 25 #[.bool xA, .slice aA nA cA]).alloc (.cells #[.bool xB, .slice aB' nB cB] 25 (0, 0))).alloc (.cells #[.bool false, .slice none 0 0] 25 (0, 0))).alloc (.cells #[.bool false, .slice none 0 0] 25 (0, 0)))
  have oB := (((Blk.new (w.alloc (.cells #[.bool xA, .slice aA nA cA] 25 (0, 0))) 25 #[.bool xB, .slice aB' nB cB]).alloc (.cells #[.bool false, .slice none 0 0] 25 (0, 0))).alloc (.cells #[.bool false, .slice none 0 0] 25 (0, 0)))
  have oR := ((Blk.new ((w.alloc (.cells #[.bool xA, .slice aA nA cA] 25 (0, 0))).alloc (.cells #[.bool xB, .slice aB' nB cB] 25 (0, 0))) 25 #[.bool false, .slice none 0 0]).alloc (.cells #[.bool false, .slice none 0 0] 25 (0, 0)))
  have oS := (Blk.new (((w.alloc (.cells #[.bool xA, .slice aA nA cA] 25 (0, 0))).alloc (.cells #[.bool xB, .slice aB' nB cB] 25 (0, 0))).alloc (.cells #[.bool false, .slice none 0 0] 25 (0, 0))) 25 #[.bool false, .slice none 0 0])
  simp only [World.size_alloc] at oB oR oS
  have hbw : Below w.heap.size w ((((w.alloc (.cells #[.bool xA, .slice aA nA cA] 25 (0, 0))).alloc (.cells #[.bool xB, .slice aB' nB cB] 25 (0, 0))).alloc (.cells #[.bool false, .slice none 0 0] 25 (0, 0))).alloc (.cells #[.bool false, .slice none 0 0] 25 (0, 0))) := by go_grown
  replace hA := hA.below hbw
  replace hB := hB.below hbw
  have ltA := oA.lt
  have ltB := oB.lt
  have ltR := oR.lt
  have ltS := oS.lt
  go_enter Tryz.func30, Tryz.ntmps30
  obtain ⟨Ac0, Ac1, Aq0, Aq1⟩ := oA.two
  obtain ⟨Bc0, Bc1, Bq0, Bq1⟩ := oB.two
  go_wp2_with fail
  refine (gcd_h _ _ x1 y1 gz1 _ hA hB HG.out).mono ?_
  rintro e w1 ⟨xG, aG', nG, cG, rfl, hG, hb⟩
  clear Ac0 Ac1 Aq0 Aq1
  clear Bc0 Bc1 Bq0 Bq1
  replace oA := oA.stay hb
  replace ltA := oA.lt
  replace oB := oB.stay hb
  replace ltB := oB.lt
  replace oR := oR.stay hb
  replace ltR := oR.lt
  replace oS := oS.stay hb
  replace ltS := oS.lt
  replace hA := hA.below hb
  replace hB := hB.below hb
  replace hbw := hbw.step hb (Nat.le_refl _)
  clear hb
  have hn := below_new w1 (.cells #[.bool xG, .slice aG' nG cG] 25 (0, 0))
  have oG := Blk.new w1 25 #[.bool xG, .slice aG' nG cG]
  have neAG : w.heap.size ≠ w1.heap.size := Nat.ne_of_lt ltA
  have neBG : w.heap.size + 1 ≠ w1.heap.size := Nat.ne_of_lt ltB
  have neRG : w.heap.size + 1 + 1 ≠ w1.heap.size := Nat.ne_of_lt ltR
  have neSG : w.heap.size + 1 + 1 + 1 ≠ w1.heap.size := Nat.ne_of_lt ltS
  have lwG : w.heap.size ≤ w1.heap.size := hbw.size
  replace oA := oA.stay hn
  replace ltA := oA.lt
  replace oB := oB.stay hn
  replace ltB := oB.lt
  replace oR := oR.stay hn
  replace ltR := oR.lt
  replace oS := oS.stay hn
  replace ltS := oS.lt
  replace hA := hA.below hn
  replace hB := hB.below hn
  replace hG := hG.below hn
  replace hbw := hbw.step hn (Nat.le_refl _)
  clear hn
  have ltG := oG.lt
  go_wp2
  generalize (w1.alloc (.cells #[.bool xG, .slice aG' nG cG] 25 (0, 0))) = W1 at hbw oA oB oR oS oG ltA ltB ltR ltS ltG hA hB hG ⊢
  have rR := oR
  clear oR
  have geR : w.heap.size ≤ w.heap.size + 1 + 1 := by omega
  have neRA : w.heap.size + 1 + 1 ≠ w.heap.size := by omega
  have neRB : w.heap.size + 1 + 1 ≠ w.heap.size + 1 := by omega
  have neRS : w.heap.size + 1 + 1 ≠ w.heap.size + 1 + 1 + 1 := by omega
  have rS := oS
  clear oS
  have geS : w.heap.size ≤ w.heap.size + 1 + 1 + 1 := by omega
  have neSA : w.heap.size + 1 + 1 + 1 ≠ w.heap.size := by omega
  have neSB : w.heap.size + 1 + 1 + 1 ≠ w.heap.size + 1 := by omega
  have neSR := neRS.symm
  refine wp_region_M (by kernel_rfl) [10, 11, 12, 13, 14, 15] [none, none, none, none, none, none, none, none, none, none, some 10, some 11, some 12, some 13, some 14, some 15] (fun U => by kernel_rfl) (fun L U wr => Below w.heap.size w wr ∧ KeepI W1 wr ∧ W1.heap.size ≤ wr.heap.size ∧ Blk 25 wr (w.heap.size) #[.bool xA, .slice aA nA cA] ∧ Blk 25 wr (w.heap.size + 1) #[.bool xB, .slice aB' nB cB] ∧ Blk 25 wr (w1.heap.size) #[.bool xG, .slice aG' nG cG] ∧ BlkV 25 wr (w.heap.size + 1 + 1) (bif L 6 then U 12 else .agg #[.bool false, .slice none 0 0]) ∧ BlkV 25 wr (w.heap.size + 1 + 1 + 1) (bif L 7 then U 15 else .agg #[.bool false, .slice none 0 0]) ∧ (L 0 = true → IS (.agg #[.bool xA, .slice aA nA cA]) (U 10) wr) ∧ (L 1 = true → IS (.agg #[.bool xG, .slice aG' nG cG]) (U 11) wr) ∧ (L 2 = true → INT p1 (U 12) wr) ∧ (L 3 = true → IS (.agg #[.bool xB, .slice aB' nB cB]) (U 13) wr) ∧ (L 4 = true → IS (.agg #[.bool xG, .slice aG' nG cG]) (U 14) wr) ∧ (L 5 = true → INT q1 (U 15) wr) ∧ (L 6 = true → L 2 = true) ∧ (L 7 = true → L 5 = true)) (by kernel_rfl) ?_ ?_ ?_
  · exact fun U => ⟨hbw.drew, KeepI.below (Below.refl _ _).drew, Nat.le_refl _, oA.drew, oB.drew, oG.drew, ⟨_, rfl, rR.drew⟩, ⟨_, rfl, rS.drew⟩, (fun h => by cases h), (fun h => by cases h), (fun h => by cases h), (fun h => by cases h), (fun h => by cases h), (fun h => by cases h), (fun h => by cases h), (fun h => by cases h)⟩
  · refine StepsU.run rfl ?_ ?_
    · intro L U wr hF hlk haf A K hA hK
      have HA : Hid (A = putAll _ _ U) := hA
      clear hA
      simp [Aft, Region.binds] at haf
      obtain ⟨fb, fk, fs, oA, oB, oG, rR, rS, f0, f1, f2, f3, f4, f5, s6, s7⟩ := hF
      have e2 : A.tmps[2]? = some (.pointer (some ⟨w.heap.size, 0, none⟩)) := by rw [HA.out]; kernel_rfl
      obtain ⟨c0, c1, -, -⟩ := oA.two
      refine ⟨?_⟩
      go_simp
      refine hK (upd U 10 (.agg #[.bool xA, .slice aA nA cA])) _ _ ?_ ?_
      · rw [HA.out]; kernel_rfl
      · exact ⟨fb, fk, fs, oA, oB, oG, rR, rS, (fun _ => rfl), f1, f2, f3, f4, f5, s6, s7⟩
    refine StepsU.run rfl ?_ ?_
    · intro L U wr hF hlk haf A K hA hK
      have HA : Hid (A = putAll _ _ U) := hA
      clear hA
      simp [Aft, Region.binds] at haf
      obtain ⟨fb, fk, fs, oA, oB, oG, rR, rS, f0, f1, f2, f3, f4, f5, s6, s7⟩ := hF
      have e6 : A.tmps[6]? = some (.pointer (some ⟨w1.heap.size, 0, none⟩)) := by rw [HA.out]; kernel_rfl
      obtain ⟨c0, c1, -, -⟩ := oG.two
      refine ⟨?_⟩
      go_simp
      refine hK (upd U 11 (.agg #[.bool xG, .slice aG' nG cG])) _ _ ?_ ?_
      · rw [HA.out]; kernel_rfl
      · exact ⟨fb, fk, fs, oA, oB, oG, rR, rS, f0, (fun _ => rfl), f2, f3, f4, f5, s6, s7⟩
    refine StepsU.run rfl ?_ ?_
    · intro L U wr hF hlk haf A K hA hK
      have HA : Hid (A = putAll _ _ U) := hA
      clear hA
      simp [Aft, Region.binds] at haf
      obtain ⟨fb, fk, fs, oA, oB, oG, rR, rS, f0, f1, f2, f3, f4, f5, s6, s7⟩ := hF
      have g0 := f0 (by simp [haf])
      have e10 := rd HA.out 10 (by kernel_rfl) g0
      have g1 := f1 (by simp [haf])
      have e11 := rd HA.out 11 (by kernel_rfl) g1
      refine ⟨?_⟩
      go_simp
      refine (quotient_any _ _ x1 gz1 p1 _ (hA.keepI fk) (hG.keepI fk) HN.out HP.out).mono ?_
      rintro e w1 ⟨u1, u2, u3, u4, rfl, hr, hb⟩
      go_simp
      have hs6 : L 6 = false := by cases h : L 6 with | false => rfl | true => rw [s6 h] at hlk; cases hlk
      refine hK (upd U 12 (.agg #[.bool u1, .slice u2 u3 u4])) _ _ ?_ ?_
      · rw [HA.out]; kernel_rfl
      · exact ⟨(fb.step hb (Nat.le_refl _)), (fk.trans (KeepI.below hb)), (Nat.le_trans fs hb.size), (oA.stay hb), (oB.stay hb), (oG.stay hb), (flip_v (P := fun v => BlkV _ _ _ v) hs6 (rR.stay hb)), (rS.stay hb), (mv mo_is (KeepI.below hb) f0), (mv mo_is (KeepI.below hb) f1), (fun _ => hr), (mv mo_is (KeepI.below hb) f3), (mv mo_is (KeepI.below hb) f4), (mv mo_int (KeepI.below hb) f5), (fun _ => rfl), s7⟩
    refine StepsU.run rfl ?_ ?_
    · intro L U wr hF hlk haf A K hA hK
      have HA : Hid (A = putAll _ _ U) := hA
      clear hA
      simp [Aft, Region.binds] at haf
      obtain ⟨fb, fk, fs, oA, oB, oG, rR, rS, f0, f1, f2, f3, f4, f5, s6, s7⟩ := hF
      have e3 : A.tmps[3]? = some (.pointer (some ⟨w.heap.size + 1, 0, none⟩)) := by rw [HA.out]; kernel_rfl
      obtain ⟨c0, c1, -, -⟩ := oB.two
      refine ⟨?_⟩
      go_simp
      refine hK (upd U 13 (.agg #[.bool xB, .slice aB' nB cB])) _ _ ?_ ?_
      · rw [HA.out]; kernel_rfl
      · exact ⟨fb, fk, fs, oA, oB, oG, rR, rS, f0, f1, f2, (fun _ => rfl), f4, f5, s6, s7⟩
    refine StepsU.run rfl ?_ ?_
    · intro L U wr hF hlk haf A K hA hK
      have HA : Hid (A = putAll _ _ U) := hA
      clear hA
      simp [Aft, Region.binds] at haf
      obtain ⟨fb, fk, fs, oA, oB, oG, rR, rS, f0, f1, f2, f3, f4, f5, s6, s7⟩ := hF
      have e6 : A.tmps[6]? = some (.pointer (some ⟨w1.heap.size, 0, none⟩)) := by rw [HA.out]; kernel_rfl
      obtain ⟨c0, c1, -, -⟩ := oG.two
      refine ⟨?_⟩
      go_simp
      refine hK (upd U 14 (.agg #[.bool xG, .slice aG' nG cG])) _ _ ?_ ?_
      · rw [HA.out]; kernel_rfl
      · exact ⟨fb, fk, fs, oA, oB, oG, rR, rS, f0, f1, f2, f3, (fun _ => rfl), f5, s6, s7⟩
    refine StepsU.run rfl ?_ ?_
    · intro L U wr hF hlk haf A K hA hK
      have HA : Hid (A = putAll _ _ U) := hA
      clear hA
      simp [Aft, Region.binds] at haf
      obtain ⟨fb, fk, fs, oA, oB, oG, rR, rS, f0, f1, f2, f3, f4, f5, s6, s7⟩ := hF
      have g3 := f3 (by simp [haf])
      have e13 := rd HA.out 13 (by kernel_rfl) g3
      have g4 := f4 (by simp [haf])
      have e14 := rd HA.out 14 (by kernel_rfl) g4
      refine ⟨?_⟩
      go_simp
      refine (quotient_any _ _ y1 gz1 q1 _ (hB.keepI fk) (hG.keepI fk) HN.out HQ.out).mono ?_
      rintro e w1 ⟨u1, u2, u3, u4, rfl, hr, hb⟩
      go_simp
      have hs7 : L 7 = false := by cases h : L 7 with | false => rfl | true => rw [s7 h] at hlk; cases hlk
      refine hK (upd U 15 (.agg #[.bool u1, .slice u2 u3 u4])) _ _ ?_ ?_
      · rw [HA.out]; kernel_rfl
      · exact ⟨(fb.step hb (Nat.le_refl _)), (fk.trans (KeepI.below hb)), (Nat.le_trans fs hb.size), (oA.stay hb), (oB.stay hb), (oG.stay hb), (rR.stay hb), (flip_v (P := fun v => BlkV _ _ _ v) hs7 (rS.stay hb)), (mv mo_is (KeepI.below hb) f0), (mv mo_is (KeepI.below hb) f1), (mv mo_int (KeepI.below hb) f2), (mv mo_is (KeepI.below hb) f3), (mv mo_is (KeepI.below hb) f4), (fun _ => hr), s6, (fun _ => rfl)⟩
    refine StepsU.run rfl ?_ ?_
    · intro L U wr hF hlk haf A K hA hK
      have HA : Hid (A = putAll _ _ U) := hA
      clear hA
      simp [Aft, Region.binds] at haf
      obtain ⟨fb, fk, fs, oA, oB, oG, rR, rS, f0, f1, f2, f3, f4, f5, s6, s7⟩ := hF
      have g2 := f2 (by simp [haf])
      obtain ⟨px, pa, pn, pc, hsrc⟩ := AInt.shape g2
      have e12 := rd HA.out 12 (by kernel_rfl) hsrc
      have e4 : A.tmps[4]? = some (.pointer (some ⟨w.heap.size + 1 + 1, 0, none⟩)) := by rw [HA.out]; kernel_rfl
      simp only [hlk, cond_false] at rR
      obtain ⟨cs, hcs, hblk⟩ := rR
      injection hcs with hcs
      subst hcs
      obtain ⟨c0, c1, q0, q1⟩ := hblk.two
      refine ⟨?_⟩
      go_simp
      have hk := keepI_two hblk px pa pn pc
      refine hK U _ _ ?_ ?_
      · exact HA.out
      · exact ⟨(below_store2 fb geR _ _), (fk.trans hk), (by simpa using fs), (oA.other2 neRA _ _), (oB.other2 neRB _ _), (oG.other2 neRG _ _), (stored_old hsrc (hblk.over2 _ _)), (rS.other2 neRS _ _), (mv mo_is hk f0), (mv mo_is hk f1), (mv mo_int hk f2), (mv mo_is hk f3), (mv mo_is hk f4), (mv mo_int hk f5), (fun _ => by simp [haf]), s7⟩
    refine StepsU.run rfl ?_ StepsU.nil
    · intro L U wr hF hlk haf A K hA hK
      have HA : Hid (A = putAll _ _ U) := hA
      clear hA
      simp [Aft, Region.binds] at haf
      obtain ⟨fb, fk, fs, oA, oB, oG, rR, rS, f0, f1, f2, f3, f4, f5, s6, s7⟩ := hF
      have g5 := f5 (by simp [haf])
      obtain ⟨px, pa, pn, pc, hsrc⟩ := AInt.shape g5
      have e15 := rd HA.out 15 (by kernel_rfl) hsrc
      have e5 : A.tmps[5]? = some (.pointer (some ⟨w.heap.size + 1 + 1 + 1, 0, none⟩)) := by rw [HA.out]; kernel_rfl
      simp only [hlk, cond_false] at rS
      obtain ⟨cs, hcs, hblk⟩ := rS
      injection hcs with hcs
      subst hcs
      obtain ⟨c0, c1, q0, q1⟩ := hblk.two
      refine ⟨?_⟩
      go_simp
      have hk := keepI_two hblk px pa pn pc
      refine hK U _ _ ?_ ?_
      · exact HA.out
      · exact ⟨(below_store2 fb geS _ _), (fk.trans hk), (by simpa using fs), (oA.other2 neSA _ _), (oB.other2 neSB _ _), (oG.other2 neSG _ _), (rR.other2 neSR _ _), (stored_old hsrc (hblk.over2 _ _)), (mv mo_is hk f0), (mv mo_is hk f1), (mv mo_int hk f2), (mv mo_is hk f3), (mv mo_is hk f4), (mv mo_int hk f5), s6, (fun _ => by simp [haf])⟩
  intro L U2 V2 hall hF
  have hbw0 := hbw
  clear hbw
  obtain ⟨hbw, fk, fs, oA, oB, oG, rR, rS, f0, f1, f2, f3, f4, f5, s6, s7⟩ := hF
  clear s6 s7
  have g0 := f0 (hall 0 (by decide))
  have g1 := f1 (hall 1 (by decide))
  have g2 := f2 (hall 2 (by decide))
  have g3 := f3 (hall 3 (by decide))
  have g4 := f4 (hall 4 (by decide))
  have g5 := f5 (hall 5 (by decide))
  rw [hall 6 (by decide), cond_true] at rR
  rw [hall 7 (by decide), cond_true] at rS
  clear hall f0 f1 f2 f3 f4 f5
  replace hA := hA.keepI fk
  replace hB := hB.keepI fk
  replace hG := hG.keepI fk
  replace ltA := Nat.lt_of_lt_of_le ltA fs
  replace ltB := Nat.lt_of_lt_of_le ltB fs
  replace ltG := Nat.lt_of_lt_of_le ltG fs
  replace ltR := Nat.lt_of_lt_of_le ltR fs
  replace ltS := Nat.lt_of_lt_of_le ltS fs
  clear g0
  clear g1
  clear g3
  clear g4
  clear hbw0
  simp only [setM_some, setM_none, setM_nil]
  clear fk fs
  obtain ⟨cs, hcs, oR⟩ := rR
  obtain ⟨px, pa, pn, pc, hv⟩ := AInt.shape g2
  have hr2 : AInt _ _ _ := g2
  rw [hv] at hcs hr2
  injection hcs with hcs
  subst hcs
  obtain ⟨r0, r1, -, -⟩ := oR.two
  obtain ⟨ds, hds, oS⟩ := rS
  obtain ⟨qx, qa, qn, qc, hv2⟩ := AInt.shape g5
  have hr5 : AInt _ _ _ := g5
  rw [hv2] at hds hr5
  injection hds with hds
  subst hds
  obtain ⟨t0, t1, -, -⟩ := oS.two
  try simp only []
  try go_at_K
  repeat (first | go_values | go_skip | go_guarded | go_step | go_upon)
  refine bodyPost_ret (v := (.tuple #[.agg #[.bool px, .slice pa pn pc], .agg #[.bool qx, .slice qa qn qc]])) (by simp [results, Tryz.results30, go_sem, r0, r1, t0, t1]) rfl ?_
  exact ⟨_, _, _, _, _, _, _, _, rfl, hr2, hr5, hbw⟩

def mulC (x y : Rat) : Int := if (x * y).num.natAbs < lim ∧ ((x * y).den : Int).natAbs < lim then 0 else 11
def mulZ (x y : Rat) : Rat := if (x * y).num.natAbs < lim ∧ ((x * y).den : Int).natAbs < lim then x * y else 0
/-- A product's parts fit. -/
def mFits (x y : Rat) : Prop := (x * y).num.natAbs < lim ∧ ((x * y).den : Int).natAbs < lim
theorem mulC_yes {x y : Rat} (h : mFits x y) : mulC x y = 0 := if_pos h
theorem mulC_no {x y : Rat} (h : ¬ mFits x y) : mulC x y = 11 := if_neg h
theorem mulZ_yes {x y : Rat} (h : mFits x y) : mulZ x y = x * y := if_pos h
theorem mulZ_no {x y : Rat} (h : ¬ mFits x y) : mulZ x y = 0 := if_neg h

set_option maxRecDepth 20000 in
set_option maxHeartbeats 16000000 in
theorem qmul_any (vX vY : Value) (x1 y1 : Rat) (w : World) (hX : QV w vX x1) (hY : QV w vY y1) :
    Calls Tryz.prog 8 #[vX, vY] w fun e w' => ∃ s1 s2 s3 s4 s5 s6 s7 s8, e = .returned (.tuple #[.agg #[.bool s1, .slice s2 s3 s4, .bool s5, .slice s6 s7 s8], .int .i64 (mulC x1 y1)]) ∧ QP w' s1 s2 s3 s4 s5 s6 s7 s8 (mulZ x1 y1) ∧ Below w.heap.size w w' := by
  obtain ⟨xX, aX, nX, cX, yX, eX, mX, fX, rfl, hX⟩ := hX
  obtain ⟨xY, aY, nY, cY, yY, eY, mY, fY, rfl, hY⟩ := hY
  have oX := (((Blk.new w 27 #[.bool xX, .slice aX nX cX, .bool yX, .slice eX mX fX]).alloc (.cells #[.bool xY, .slice aY nY cY, .bool yY, .slice eY mY fY] 27 (0, 0))).alloc (.cells #[.bool false, .slice none 0 0, .bool false, .slice none 0 0] 27 (0, 0)))
  have oY := ((Blk.new (w.alloc (.cells #[.bool xX, .slice aX nX cX, .bool yX, .slice eX mX fX] 27 (0, 0))) 27 #[.bool xY, .slice aY nY cY, .bool yY, .slice eY mY fY]).alloc (.cells #[.bool false, .slice none 0 0, .bool false, .slice none 0 0] 27 (0, 0)))
  have oR := (Blk.new ((w.alloc (.cells #[.bool xX, .slice aX nX cX, .bool yX, .slice eX mX fX] 27 (0, 0))).alloc (.cells #[.bool xY, .slice aY nY cY, .bool yY, .slice eY mY fY] 27 (0, 0))) 27 #[.bool false, .slice none 0 0, .bool false, .slice none 0 0])
  simp only [World.size_alloc] at oY oR
  have hbw : Below w.heap.size w (((w.alloc (.cells #[.bool xX, .slice aX nX cX, .bool yX, .slice eX mX fX] 27 (0, 0))).alloc (.cells #[.bool xY, .slice aY nY cY, .bool yY, .slice eY mY fY] 27 (0, 0))).alloc (.cells #[.bool false, .slice none 0 0, .bool false, .slice none 0 0] 27 (0, 0))) := by go_grown
  replace hX := hX.below hbw
  replace hY := hY.below hbw
  have ltX := oX.lt
  have ltY := oY.lt
  have ltR := oR.lt
  go_enter Tryz.func8, Tryz.ntmps8
  go_wp2
  generalize (((w.alloc (.cells #[.bool xX, .slice aX nX cX, .bool yX, .slice eX mX fX] 27 (0, 0))).alloc (.cells #[.bool xY, .slice aY nY cY, .bool yY, .slice eY mY fY] 27 (0, 0))).alloc (.cells #[.bool false, .slice none 0 0, .bool false, .slice none 0 0] 27 (0, 0))) = W0 at hbw oX oY oR ltX ltY ltR hX hY ⊢
  refine wp_region_M (by kernel_rfl) [6, 7, 13, 14, 15, 16, 17, 18, 19, 20] [none, none, none, none, none, none, some 6, some 7, none, none, none, none, none, some 13, some 14, some 15, some 16, some 17, some 18, some 19, some 20] (fun U => by kernel_rfl) (fun L U wr => Below w.heap.size w wr ∧ KeepI W0 wr ∧ W0.heap.size ≤ wr.heap.size ∧ Blk 27 wr (w.heap.size) #[.bool xX, .slice aX nX cX, .bool yX, .slice eX mX fX] ∧ Blk 27 wr (w.heap.size + 1) #[.bool xY, .slice aY nY cY, .bool yY, .slice eY mY fY] ∧ Blk 27 wr (w.heap.size + 1 + 1) #[.bool false, .slice none 0 0, .bool false, .slice none 0 0] ∧ (L 0 = true → IS (.pointer (some ⟨w.heap.size, 0, none⟩)) (U 14) wr) ∧ (L 1 = true → IS (.agg #[.bool xX, .slice aX nX cX]) (U 15) wr) ∧ (L 2 = true → IS (.agg #[.bool xY, .slice aY nY cY, .bool yY, .slice eY mY fY]) (U 16) wr) ∧ (L 3 = true → INT (y1.den : Int) (U 17) wr) ∧ (L 4 = true → T2 (INT (mN x1 y1)) (INT (mD x1 y1)) (U 18) wr) ∧ (L 5 = true → T2 (INT (mN x1 y1)) (INT (mD x1 y1)) (U 13) wr) ∧ (L 6 = true → INT (mN x1 y1) (U 19) wr) ∧ (L 7 = true → INT (mD x1 y1) (U 20) wr) ∧ (L 8 = true → NEW 25 W0.heap.size wr (U 6) (bif L 10 then U 19 else .agg #[.bool false, .slice none 0 0])) ∧ (L 9 = true → NEW 25 W0.heap.size wr (U 7) (bif L 11 then U 20 else .agg #[.bool false, .slice none 0 0])) ∧ (L 10 = true → L 6 = true) ∧ (L 11 = true → L 7 = true) ∧ (L 10 = true → L 8 = true) ∧ (L 11 = true → L 9 = true) ∧ (L 8 = true → L 9 = true → U 6 ≠ U 7)) (by kernel_rfl) ?_ ?_ ?_
  · exact fun U => ⟨hbw.drew, KeepI.below (Below.refl _ _).drew, Nat.le_refl _, oX.drew, oY.drew, oR.drew, (fun h => by cases h), (fun h => by cases h), (fun h => by cases h), (fun h => by cases h), (fun h => by cases h), (fun h => by cases h), (fun h => by cases h), (fun h => by cases h), (fun h => by cases h), (fun h => by cases h), (fun h => by cases h), (fun h => by cases h), (fun h => by cases h), (fun h => by cases h), (fun h => by cases h)⟩
  · refine StepsU.run rfl ?_ ?_
    · intro L U wr hF hlk haf A K hA hK
      have HA : Hid (A = putAll _ _ U) := hA
      clear hA
      simp [Aft, Region.binds] at haf
      obtain ⟨fb, fk, fs, oX, oY, oR, f0, f1, f2, f3, f4, f5, f6, f7, f8, f9, s10, s11, m8, m9, d8_9⟩ := hF
      have e2 : A.tmps[2]? = some (.pointer (some ⟨w.heap.size, 0, none⟩)) := by rw [HA.out]; kernel_rfl
      refine ⟨?_⟩
      go_simp
      refine hK (upd U 14 (.pointer (some ⟨w.heap.size, 0, none⟩))) _ _ ?_ ?_
      · rw [HA.out]; kernel_rfl
      · exact ⟨fb, fk, fs, oX, oY, oR, (fun _ => rfl), f1, f2, f3, f4, f5, f6, f7, f8, f9, s10, s11, m8, m9, d8_9⟩
    refine StepsU.run rfl ?_ ?_
    · intro L U wr hF hlk haf A K hA hK
      have HA : Hid (A = putAll _ _ U) := hA
      clear hA
      simp [Aft, Region.binds] at haf
      obtain ⟨fb, fk, fs, oX, oY, oR, f0, f1, f2, f3, f4, f5, f6, f7, f8, f9, s10, s11, m8, m9, d8_9⟩ := hF
      have g0 := f0 (by simp [haf])
      have e14 := rd HA.out 14 (by kernel_rfl) g0
      obtain ⟨c0, c1, c2, c3⟩ := oX.four
      refine ⟨?_⟩
      go_simp
      refine hK (upd U 15 (.agg #[.bool xX, .slice aX nX cX])) _ _ ?_ ?_
      · rw [HA.out]; kernel_rfl
      · exact ⟨fb, fk, fs, oX, oY, oR, f0, (fun _ => rfl), f2, f3, f4, f5, f6, f7, f8, f9, s10, s11, m8, m9, d8_9⟩
    refine StepsU.run rfl ?_ ?_
    · intro L U wr hF hlk haf A K hA hK
      have HA : Hid (A = putAll _ _ U) := hA
      clear hA
      simp [Aft, Region.binds] at haf
      obtain ⟨fb, fk, fs, oX, oY, oR, f0, f1, f2, f3, f4, f5, f6, f7, f8, f9, s10, s11, m8, m9, d8_9⟩ := hF
      have e3 : A.tmps[3]? = some (.pointer (some ⟨w.heap.size + 1, 0, none⟩)) := by rw [HA.out]; kernel_rfl
      obtain ⟨c0, c1, c2, c3⟩ := oY.four
      refine ⟨?_⟩
      go_simp
      refine hK (upd U 16 (.agg #[.bool xY, .slice aY nY cY, .bool yY, .slice eY mY fY])) _ _ ?_ ?_
      · rw [HA.out]; kernel_rfl
      · exact ⟨fb, fk, fs, oX, oY, oR, f0, f1, (fun _ => rfl), f3, f4, f5, f6, f7, f8, f9, s10, s11, m8, m9, d8_9⟩
    refine StepsU.run rfl ?_ ?_
    · intro L U wr hF hlk haf A K hA hK
      have HA : Hid (A = putAll _ _ U) := hA
      clear hA
      simp [Aft, Region.binds] at haf
      obtain ⟨fb, fk, fs, oX, oY, oR, f0, f1, f2, f3, f4, f5, f6, f7, f8, f9, s10, s11, m8, m9, d8_9⟩ := hF
      have g2 := f2 (by simp [haf])
      have e16 := rd HA.out 16 (by kernel_rfl) g2
      refine ⟨?_⟩
      go_simp
      refine (den_any _ y1 _ (hY.val.keepI fk)).mono ?_
      rintro e w1 ⟨u1, u2, u3, u4, rfl, hr, hb⟩
      go_simp
      refine hK (upd U 17 (.agg #[.bool u1, .slice u2 u3 u4])) _ _ ?_ ?_
      · rw [HA.out]; kernel_rfl
      · exact ⟨(fb.step hb (Nat.le_refl _)), (fk.trans (KeepI.below hb)), (Nat.le_trans fs hb.size), (oX.stay hb), (oY.stay hb), (oR.stay hb), (mv mo_is (KeepI.below hb) f0), (mv mo_is (KeepI.below hb) f1), (mv mo_is (KeepI.below hb) f2), (fun _ => hr), (mv (mo_t2 mo_int mo_int) (KeepI.below hb) f4), (mv (mo_t2 mo_int mo_int) (KeepI.below hb) f5), (mv mo_int (KeepI.below hb) f6), (mv mo_int (KeepI.below hb) f7), (fun h => (f8 h).below hb), (fun h => (f9 h).below hb), s10, s11, m8, m9, d8_9⟩
    refine StepsU.run rfl ?_ ?_
    · intro L U wr hF hlk haf A K hA hK
      have HA : Hid (A = putAll _ _ U) := hA
      clear hA
      simp [Aft, Region.binds] at haf
      obtain ⟨fb, fk, fs, oX, oY, oR, f0, f1, f2, f3, f4, f5, f6, f7, f8, f9, s10, s11, m8, m9, d8_9⟩ := hF
      have g1 := f1 (by simp [haf])
      have e15 := rd HA.out 15 (by kernel_rfl) g1
      have g3 := f3 (by simp [haf])
      have e17 := rd HA.out 17 (by kernel_rfl) rfl
      refine ⟨?_⟩
      go_simp
      refine (reduced_any _ _ x1.num y1.den (mG x1 y1) (mN x1 y1) (mD x1 y1) _ (hX.1.keepI fk) g3 (mG_def x1 y1) (Int.ne_of_gt (mG_pos x1 y1)) (mN_def x1 y1) (mD_def x1 y1)).mono ?_
      rintro e w1 ⟨u1, u2, u3, u4, u5, u6, u7, u8, rfl, hr, hr2, hb⟩
      go_simp
      refine hK (upd U 18 (.tuple #[.agg #[.bool u1, .slice u2 u3 u4], .agg #[.bool u5, .slice u6 u7 u8]])) _ _ ?_ ?_
      · rw [HA.out]; kernel_rfl
      · exact ⟨(fb.step hb (Nat.le_refl _)), (fk.trans (KeepI.below hb)), (Nat.le_trans fs hb.size), (oX.stay hb), (oY.stay hb), (oR.stay hb), (mv mo_is (KeepI.below hb) f0), (mv mo_is (KeepI.below hb) f1), (mv mo_is (KeepI.below hb) f2), (mv mo_int (KeepI.below hb) f3), (fun _ => ⟨_, _, rfl, hr, hr2⟩), (mv (mo_t2 mo_int mo_int) (KeepI.below hb) f5), (mv mo_int (KeepI.below hb) f6), (mv mo_int (KeepI.below hb) f7), (fun h => (f8 h).below hb), (fun h => (f9 h).below hb), s10, s11, m8, m9, d8_9⟩
    refine StepsU.run rfl ?_ ?_
    · intro L U wr hF hlk haf A K hA hK
      have HA : Hid (A = putAll _ _ U) := hA
      clear hA
      simp [Aft, Region.binds] at haf
      obtain ⟨fb, fk, fs, oX, oY, oR, f0, f1, f2, f3, f4, f5, f6, f7, f8, f9, s10, s11, m8, m9, d8_9⟩ := hF
      have g4 := f4 (by simp [haf])
      have e18 := rd HA.out 18 (by kernel_rfl) rfl
      refine ⟨?_⟩
      go_simp
      refine hK (upd U 13 (U 18)) _ _ ?_ ?_
      · rw [HA.out]; kernel_rfl
      · exact ⟨fb, fk, fs, oX, oY, oR, f0, f1, f2, f3, f4, (fun _ => g4), f6, f7, f8, f9, s10, s11, m8, m9, d8_9⟩
    refine StepsU.run rfl ?_ ?_
    · intro L U wr hF hlk haf A K hA hK
      have HA : Hid (A = putAll _ _ U) := hA
      clear hA
      simp [Aft, Region.binds] at haf
      obtain ⟨fb, fk, fs, oX, oY, oR, f0, f1, f2, f3, f4, f5, f6, f7, f8, f9, s10, s11, m8, m9, d8_9⟩ := hF
      have g5 := f5 (by simp [haf])
      obtain ⟨t0, t1, hT, k0, k1⟩ := g5
      have e13 := rd HA.out 13 (by kernel_rfl) hT
      refine ⟨?_⟩
      go_simp
      have hs10 : L 10 = false := by cases h : L 10 with | false => rfl | true => rw [s10 h] at hlk; cases hlk
      refine hK (upd U 19 t0) _ _ ?_ ?_
      · rw [HA.out]; kernel_rfl
      · exact ⟨fb, fk, fs, oX, oY, oR, f0, f1, f2, f3, f4, f5, (fun _ => k0), f7, (fun h => flip_v (P := fun v => NEW _ _ _ _ v) hs10 (f8 h)), f9, (fun _ => rfl), s11, m8, m9, d8_9⟩
    refine StepsU.run rfl ?_ ?_
    · intro L U wr hF hlk haf A K hA hK
      have HA : Hid (A = putAll _ _ U) := hA
      clear hA
      simp [Aft, Region.binds] at haf
      obtain ⟨fb, fk, fs, oX, oY, oR, f0, f1, f2, f3, f4, f5, f6, f7, f8, f9, s10, s11, m8, m9, d8_9⟩ := hF
      have g5 := f5 (by simp [haf])
      obtain ⟨t0, t1, hT, k0, k1⟩ := g5
      have e13 := rd HA.out 13 (by kernel_rfl) hT
      refine ⟨?_⟩
      go_simp
      have hs11 : L 11 = false := by cases h : L 11 with | false => rfl | true => rw [s11 h] at hlk; cases hlk
      refine hK (upd U 20 t1) _ _ ?_ ?_
      · rw [HA.out]; kernel_rfl
      · exact ⟨fb, fk, fs, oX, oY, oR, f0, f1, f2, f3, f4, f5, f6, (fun _ => k1), f8, (fun h => flip_v (P := fun v => NEW _ _ _ _ v) hs11 (f9 h)), s10, (fun _ => rfl), m8, m9, d8_9⟩
    refine StepsU.run rfl ?_ ?_
    · intro L U wr hF hlk haf A K hA hK
      have HA : Hid (A = putAll _ _ U) := hA
      clear hA
      simp [Aft, Region.binds] at haf
      obtain ⟨fb, fk, fs, oX, oY, oR, f0, f1, f2, f3, f4, f5, f6, f7, f8, f9, s10, s11, m8, m9, d8_9⟩ := hF
      have hst : L 10 = false := by cases h : L 10 with | false => rfl | true => rw [m8 h] at hlk; cases hlk
      refine ⟨?_⟩
      go_simp
      have hb := below_new wr (.cells #[.bool false, .slice none 0 0] 25 (0, 0))
      refine hK (upd U 6 (.pointer (some ⟨wr.heap.size, 0, none⟩))) _ _ ?_ ?_
      · rw [HA.out]; kernel_rfl
      · exact ⟨(fb.step hb (Nat.le_refl _)), (fk.trans (KeepI.below hb)), (Nat.le_trans fs hb.size), (oX.stay hb), (oY.stay hb), (oR.stay hb), (mv mo_is (KeepI.below hb) f0), (mv mo_is (KeepI.below hb) f1), (mv mo_is (KeepI.below hb) f2), (mv mo_int (KeepI.below hb) f3), (mv (mo_t2 mo_int mo_int) (KeepI.below hb) f4), (mv (mo_t2 mo_int mo_int) (KeepI.below hb) f5), (mv mo_int (KeepI.below hb) f6), (mv mo_int (KeepI.below hb) f7), (fun _ => new_zero hst (NEW.mk fs (noI2 _ _ _ _))), (fun h => (f9 h).below hb), s10, s11, (fun _ => rfl), m9, (fun _ h => (f9 h).apart.symm)⟩
    refine StepsU.run rfl ?_ ?_
    · intro L U wr hF hlk haf A K hA hK
      have HA : Hid (A = putAll _ _ U) := hA
      clear hA
      simp [Aft, Region.binds] at haf
      obtain ⟨fb, fk, fs, oX, oY, oR, f0, f1, f2, f3, f4, f5, f6, f7, f8, f9, s10, s11, m8, m9, d8_9⟩ := hF
      have hst : L 11 = false := by cases h : L 11 with | false => rfl | true => rw [m9 h] at hlk; cases hlk
      refine ⟨?_⟩
      go_simp
      have hb := below_new wr (.cells #[.bool false, .slice none 0 0] 25 (0, 0))
      refine hK (upd U 7 (.pointer (some ⟨wr.heap.size, 0, none⟩))) _ _ ?_ ?_
      · rw [HA.out]; kernel_rfl
      · exact ⟨(fb.step hb (Nat.le_refl _)), (fk.trans (KeepI.below hb)), (Nat.le_trans fs hb.size), (oX.stay hb), (oY.stay hb), (oR.stay hb), (mv mo_is (KeepI.below hb) f0), (mv mo_is (KeepI.below hb) f1), (mv mo_is (KeepI.below hb) f2), (mv mo_int (KeepI.below hb) f3), (mv (mo_t2 mo_int mo_int) (KeepI.below hb) f4), (mv (mo_t2 mo_int mo_int) (KeepI.below hb) f5), (mv mo_int (KeepI.below hb) f6), (mv mo_int (KeepI.below hb) f7), (fun h => (f8 h).below hb), (fun _ => new_zero hst (NEW.mk fs (noI2 _ _ _ _))), s10, s11, m8, (fun _ => rfl), (fun h _ => (f8 h).apart)⟩
    refine StepsU.run rfl ?_ ?_
    · intro L U wr hF hlk haf A K hA hK
      have HA : Hid (A = putAll _ _ U) := hA
      clear hA
      simp [Aft, Region.binds] at haf
      obtain ⟨fb, fk, fs, oX, oY, oR, f0, f1, f2, f3, f4, f5, f6, f7, f8, f9, s10, s11, m8, m9, d8_9⟩ := hF
      have g6 := f6 (by simp [haf])
      obtain ⟨px, pa, pn, pc, hsrc⟩ := AInt.shape g6
      have e19 := rd HA.out 19 (by kernel_rfl) hsrc
      have gA := f8 (by simp [haf])
      simp only [hlk, cond_false] at gA
      obtain ⟨b, cs, hp, hBb, hcs, hblk, -⟩ := gA
      injection hcs with hcs
      subst hcs
      have e6 := rd HA.out 6 (by kernel_rfl) hp
      obtain ⟨c0, c1, q0, q1⟩ := hblk.two
      refine ⟨?_⟩
      go_simp
      have hk := keepI_two hblk px pa pn pc
      refine hK U _ _ ?_ ?_
      · exact HA.out
      · exact ⟨(below_store2 fb (Nat.le_trans hbw.size hBb) _ _), (fk.trans hk), (by simpa using fs), (oX.other2 (Nat.ne_of_gt (Nat.lt_of_lt_of_le ltX hBb)) _ _), (oY.other2 (Nat.ne_of_gt (Nat.lt_of_lt_of_le ltY hBb)) _ _), (oR.other2 (Nat.ne_of_gt (Nat.lt_of_lt_of_le ltR hBb)) _ _), (mv mo_is hk f0), (mv mo_is hk f1), (mv mo_is hk f2), (mv mo_int hk f3), (mv (mo_t2 mo_int mo_int) hk f4), (mv (mo_t2 mo_int mo_int) hk f5), (mv mo_int hk f6), (mv mo_int hk f7), (fun _ => stored_new hp hsrc (NEW.over2 hBb hblk px pa pn pc)), (fun h => (f9 h).other2 (fun ee => ((d8_9 (by simp [haf]) h).symm) (ee.trans hp.symm)) _ _), (fun _ => by simp [haf]), s11, (fun _ => by simp [haf]), m9, d8_9⟩
    refine StepsU.run rfl ?_ StepsU.nil
    · intro L U wr hF hlk haf A K hA hK
      have HA : Hid (A = putAll _ _ U) := hA
      clear hA
      simp [Aft, Region.binds] at haf
      obtain ⟨fb, fk, fs, oX, oY, oR, f0, f1, f2, f3, f4, f5, f6, f7, f8, f9, s10, s11, m8, m9, d8_9⟩ := hF
      have g7 := f7 (by simp [haf])
      obtain ⟨px, pa, pn, pc, hsrc⟩ := AInt.shape g7
      have e20 := rd HA.out 20 (by kernel_rfl) hsrc
      have gA := f9 (by simp [haf])
      simp only [hlk, cond_false] at gA
      obtain ⟨b, cs, hp, hBb, hcs, hblk, -⟩ := gA
      injection hcs with hcs
      subst hcs
      have e7 := rd HA.out 7 (by kernel_rfl) hp
      obtain ⟨c0, c1, q0, q1⟩ := hblk.two
      refine ⟨?_⟩
      go_simp
      have hk := keepI_two hblk px pa pn pc
      refine hK U _ _ ?_ ?_
      · exact HA.out
      · exact ⟨(below_store2 fb (Nat.le_trans hbw.size hBb) _ _), (fk.trans hk), (by simpa using fs), (oX.other2 (Nat.ne_of_gt (Nat.lt_of_lt_of_le ltX hBb)) _ _), (oY.other2 (Nat.ne_of_gt (Nat.lt_of_lt_of_le ltY hBb)) _ _), (oR.other2 (Nat.ne_of_gt (Nat.lt_of_lt_of_le ltR hBb)) _ _), (mv mo_is hk f0), (mv mo_is hk f1), (mv mo_is hk f2), (mv mo_int hk f3), (mv (mo_t2 mo_int mo_int) hk f4), (mv (mo_t2 mo_int mo_int) hk f5), (mv mo_int hk f6), (mv mo_int hk f7), (fun h => (f8 h).other2 (fun ee => (d8_9 h (by simp [haf])) (ee.trans hp.symm)) _ _), (fun _ => stored_new hp hsrc (NEW.over2 hBb hblk px pa pn pc)), s10, (fun _ => by simp [haf]), m8, (fun _ => by simp [haf]), d8_9⟩
  intro L U1 V1 hall hF
  have hbw0 := hbw
  clear hbw
  obtain ⟨hbw, fk, fs, oX, oY, oR, f0, f1, f2, f3, f4, f5, f6, f7, f8, f9, s10, s11, m8, m9, d8_9⟩ := hF
  clear s10 s11 m8 m9
  have g0 := f0 (hall 0 (by decide))
  have g1 := f1 (hall 1 (by decide))
  have g2 := f2 (hall 2 (by decide))
  have g3 := f3 (hall 3 (by decide))
  have g4 := f4 (hall 4 (by decide))
  have g5 := f5 (hall 5 (by decide))
  have g6 := f6 (hall 6 (by decide))
  have g7 := f7 (hall 7 (by decide))
  have g8 := f8 (hall 8 (by decide))
  rw [hall 10 (by decide), cond_true] at g8
  have g9 := f9 (hall 9 (by decide))
  rw [hall 11 (by decide), cond_true] at g9
  replace d8_9 := d8_9 (hall 8 (by decide)) (hall 9 (by decide))
  clear hall f0 f1 f2 f3 f4 f5 f6 f7 f8 f9
  replace hX := hX.keepI fk
  replace hY := hY.keepI fk
  obtain ⟨bA, csA, hpA, lbA, hcsA, oA, -⟩ := g8
  obtain ⟨xA, aA, nA, cA, hvA⟩ := AInt.shape g6
  have hA : AInt _ _ _ := g6
  rw [hvA] at hA
  rw [hvA] at hcsA
  injection hcsA with hcsA
  subst hcsA
  have ltA := oA.lt
  obtain ⟨bB, csB, hpB, lbB, hcsB, oB, -⟩ := g9
  obtain ⟨xB, aB, nB, cB, hvB⟩ := AInt.shape g7
  have hB : AInt _ _ _ := g7
  rw [hvB] at hB
  rw [hvB] at hcsB
  injection hcsB with hcsB
  subst hcsB
  have ltB := oB.lt
  have neAB : bA ≠ bB := fun h => d8_9 (by rw [hpA, hpB, h])
  clear d8_9
  have neXA : w.heap.size ≠ bA := Nat.ne_of_lt (Nat.lt_of_lt_of_le ltX lbA)
  have neYA : w.heap.size + 1 ≠ bA := Nat.ne_of_lt (Nat.lt_of_lt_of_le ltY lbA)
  have neRA : w.heap.size + 1 + 1 ≠ bA := Nat.ne_of_lt (Nat.lt_of_lt_of_le ltR lbA)
  have lwA : w.heap.size ≤ bA := Nat.le_trans hbw0.size lbA
  have neXB : w.heap.size ≠ bB := Nat.ne_of_lt (Nat.lt_of_lt_of_le ltX lbB)
  have neYB : w.heap.size + 1 ≠ bB := Nat.ne_of_lt (Nat.lt_of_lt_of_le ltY lbB)
  have neRB : w.heap.size + 1 + 1 ≠ bB := Nat.ne_of_lt (Nat.lt_of_lt_of_le ltR lbB)
  have lwB : w.heap.size ≤ bB := Nat.le_trans hbw0.size lbB
  clear lbA lbB
  replace ltX := Nat.lt_of_lt_of_le ltX fs
  replace ltY := Nat.lt_of_lt_of_le ltY fs
  replace ltR := Nat.lt_of_lt_of_le ltR fs
  clear g0
  clear g1
  clear g2
  clear g3
  clear g4
  clear g5
  clear g6
  clear g7
  clear hbw0
  simp only [setM_some, setM_none, setM_nil]
  rw [hpA, hpB]
  clear hpA hpB hvA hvB
  clear fk fs
  go_wp2
  refine wp_region_M (by kernel_rfl) [8, 9, 21, 22, 23, 24, 25, 26, 27, 28] [none, none, none, none, none, none, none, none, some 8, some 9, none, none, none, none, none, none, none, none, none, none, none, some 21, some 22, some 23, some 24, some 25, some 26, some 27, some 28] (fun U => by kernel_rfl) (fun L U wr => Below w.heap.size w wr ∧ KeepI V1 wr ∧ V1.heap.size ≤ wr.heap.size ∧ Blk 27 wr (w.heap.size) #[.bool xX, .slice aX nX cX, .bool yX, .slice eX mX fX] ∧ Blk 27 wr (w.heap.size + 1) #[.bool xY, .slice aY nY cY, .bool yY, .slice eY mY fY] ∧ Blk 27 wr (w.heap.size + 1 + 1) #[.bool false, .slice none 0 0, .bool false, .slice none 0 0] ∧ Blk 25 wr (bA) #[.bool xA, .slice aA nA cA] ∧ Blk 25 wr (bB) #[.bool xB, .slice aB nB cB] ∧ (L 0 = true → IS (.pointer (some ⟨w.heap.size + 1, 0, none⟩)) (U 22) wr) ∧ (L 1 = true → IS (.agg #[.bool xY, .slice aY nY cY]) (U 23) wr) ∧ (L 2 = true → IS (.agg #[.bool xX, .slice aX nX cX, .bool yX, .slice eX mX fX]) (U 24) wr) ∧ (L 3 = true → INT (x1.den : Int) (U 25) wr) ∧ (L 4 = true → T2 (INT (mN y1 x1)) (INT (mD y1 x1)) (U 26) wr) ∧ (L 5 = true → T2 (INT (mN y1 x1)) (INT (mD y1 x1)) (U 21) wr) ∧ (L 6 = true → INT (mN y1 x1) (U 27) wr) ∧ (L 7 = true → INT (mD y1 x1) (U 28) wr) ∧ (L 8 = true → NEW 25 V1.heap.size wr (U 8) (bif L 10 then U 27 else .agg #[.bool false, .slice none 0 0])) ∧ (L 9 = true → NEW 25 V1.heap.size wr (U 9) (bif L 11 then U 28 else .agg #[.bool false, .slice none 0 0])) ∧ (L 10 = true → L 6 = true) ∧ (L 11 = true → L 7 = true) ∧ (L 10 = true → L 8 = true) ∧ (L 11 = true → L 9 = true) ∧ (L 8 = true → L 9 = true → U 8 ≠ U 9)) (by kernel_rfl) ?_ ?_ ?_
  · exact fun U => ⟨hbw.drew, KeepI.below (Below.refl _ _).drew, Nat.le_refl _, oX.drew, oY.drew, oR.drew, oA.drew, oB.drew, (fun h => by cases h), (fun h => by cases h), (fun h => by cases h), (fun h => by cases h), (fun h => by cases h), (fun h => by cases h), (fun h => by cases h), (fun h => by cases h), (fun h => by cases h), (fun h => by cases h), (fun h => by cases h), (fun h => by cases h), (fun h => by cases h), (fun h => by cases h), (fun h => by cases h)⟩
  · refine StepsU.run rfl ?_ ?_
    · intro L U wr hF hlk haf A K hA hK
      have HA : Hid (A = putAll _ _ U) := hA
      clear hA
      simp [Aft, Region.binds] at haf
      obtain ⟨fb, fk, fs, oX, oY, oR, oA, oB, f0, f1, f2, f3, f4, f5, f6, f7, f8, f9, s10, s11, m8, m9, d8_9⟩ := hF
      have e3 : A.tmps[3]? = some (.pointer (some ⟨w.heap.size + 1, 0, none⟩)) := by rw [HA.out]; kernel_rfl
      refine ⟨?_⟩
      go_simp
      refine hK (upd U 22 (.pointer (some ⟨w.heap.size + 1, 0, none⟩))) _ _ ?_ ?_
      · rw [HA.out]; kernel_rfl
      · exact ⟨fb, fk, fs, oX, oY, oR, oA, oB, (fun _ => rfl), f1, f2, f3, f4, f5, f6, f7, f8, f9, s10, s11, m8, m9, d8_9⟩
    refine StepsU.run rfl ?_ ?_
    · intro L U wr hF hlk haf A K hA hK
      have HA : Hid (A = putAll _ _ U) := hA
      clear hA
      simp [Aft, Region.binds] at haf
      obtain ⟨fb, fk, fs, oX, oY, oR, oA, oB, f0, f1, f2, f3, f4, f5, f6, f7, f8, f9, s10, s11, m8, m9, d8_9⟩ := hF
      have g0 := f0 (by simp [haf])
      have e22 := rd HA.out 22 (by kernel_rfl) g0
      obtain ⟨c0, c1, c2, c3⟩ := oY.four
      refine ⟨?_⟩
      go_simp
      refine hK (upd U 23 (.agg #[.bool xY, .slice aY nY cY])) _ _ ?_ ?_
      · rw [HA.out]; kernel_rfl
      · exact ⟨fb, fk, fs, oX, oY, oR, oA, oB, f0, (fun _ => rfl), f2, f3, f4, f5, f6, f7, f8, f9, s10, s11, m8, m9, d8_9⟩
    refine StepsU.run rfl ?_ ?_
    · intro L U wr hF hlk haf A K hA hK
      have HA : Hid (A = putAll _ _ U) := hA
      clear hA
      simp [Aft, Region.binds] at haf
      obtain ⟨fb, fk, fs, oX, oY, oR, oA, oB, f0, f1, f2, f3, f4, f5, f6, f7, f8, f9, s10, s11, m8, m9, d8_9⟩ := hF
      have e2 : A.tmps[2]? = some (.pointer (some ⟨w.heap.size, 0, none⟩)) := by rw [HA.out]; kernel_rfl
      obtain ⟨c0, c1, c2, c3⟩ := oX.four
      refine ⟨?_⟩
      go_simp
      refine hK (upd U 24 (.agg #[.bool xX, .slice aX nX cX, .bool yX, .slice eX mX fX])) _ _ ?_ ?_
      · rw [HA.out]; kernel_rfl
      · exact ⟨fb, fk, fs, oX, oY, oR, oA, oB, f0, f1, (fun _ => rfl), f3, f4, f5, f6, f7, f8, f9, s10, s11, m8, m9, d8_9⟩
    refine StepsU.run rfl ?_ ?_
    · intro L U wr hF hlk haf A K hA hK
      have HA : Hid (A = putAll _ _ U) := hA
      clear hA
      simp [Aft, Region.binds] at haf
      obtain ⟨fb, fk, fs, oX, oY, oR, oA, oB, f0, f1, f2, f3, f4, f5, f6, f7, f8, f9, s10, s11, m8, m9, d8_9⟩ := hF
      have g2 := f2 (by simp [haf])
      have e24 := rd HA.out 24 (by kernel_rfl) g2
      refine ⟨?_⟩
      go_simp
      refine (den_any _ x1 _ (hX.val.keepI fk)).mono ?_
      rintro e w1 ⟨u1, u2, u3, u4, rfl, hr, hb⟩
      go_simp
      refine hK (upd U 25 (.agg #[.bool u1, .slice u2 u3 u4])) _ _ ?_ ?_
      · rw [HA.out]; kernel_rfl
      · exact ⟨(fb.step hb (Nat.le_refl _)), (fk.trans (KeepI.below hb)), (Nat.le_trans fs hb.size), (oX.stay hb), (oY.stay hb), (oR.stay hb), (oA.stay hb), (oB.stay hb), (mv mo_is (KeepI.below hb) f0), (mv mo_is (KeepI.below hb) f1), (mv mo_is (KeepI.below hb) f2), (fun _ => hr), (mv (mo_t2 mo_int mo_int) (KeepI.below hb) f4), (mv (mo_t2 mo_int mo_int) (KeepI.below hb) f5), (mv mo_int (KeepI.below hb) f6), (mv mo_int (KeepI.below hb) f7), (fun h => (f8 h).below hb), (fun h => (f9 h).below hb), s10, s11, m8, m9, d8_9⟩
    refine StepsU.run rfl ?_ ?_
    · intro L U wr hF hlk haf A K hA hK
      have HA : Hid (A = putAll _ _ U) := hA
      clear hA
      simp [Aft, Region.binds] at haf
      obtain ⟨fb, fk, fs, oX, oY, oR, oA, oB, f0, f1, f2, f3, f4, f5, f6, f7, f8, f9, s10, s11, m8, m9, d8_9⟩ := hF
      have g1 := f1 (by simp [haf])
      have e23 := rd HA.out 23 (by kernel_rfl) g1
      have g3 := f3 (by simp [haf])
      have e25 := rd HA.out 25 (by kernel_rfl) rfl
      refine ⟨?_⟩
      go_simp
      refine (reduced_any _ _ y1.num x1.den (mG y1 x1) (mN y1 x1) (mD y1 x1) _ (hY.1.keepI fk) g3 (mG_def y1 x1) (Int.ne_of_gt (mG_pos y1 x1)) (mN_def y1 x1) (mD_def y1 x1)).mono ?_
      rintro e w1 ⟨u1, u2, u3, u4, u5, u6, u7, u8, rfl, hr, hr2, hb⟩
      go_simp
      refine hK (upd U 26 (.tuple #[.agg #[.bool u1, .slice u2 u3 u4], .agg #[.bool u5, .slice u6 u7 u8]])) _ _ ?_ ?_
      · rw [HA.out]; kernel_rfl
      · exact ⟨(fb.step hb (Nat.le_refl _)), (fk.trans (KeepI.below hb)), (Nat.le_trans fs hb.size), (oX.stay hb), (oY.stay hb), (oR.stay hb), (oA.stay hb), (oB.stay hb), (mv mo_is (KeepI.below hb) f0), (mv mo_is (KeepI.below hb) f1), (mv mo_is (KeepI.below hb) f2), (mv mo_int (KeepI.below hb) f3), (fun _ => ⟨_, _, rfl, hr, hr2⟩), (mv (mo_t2 mo_int mo_int) (KeepI.below hb) f5), (mv mo_int (KeepI.below hb) f6), (mv mo_int (KeepI.below hb) f7), (fun h => (f8 h).below hb), (fun h => (f9 h).below hb), s10, s11, m8, m9, d8_9⟩
    refine StepsU.run rfl ?_ ?_
    · intro L U wr hF hlk haf A K hA hK
      have HA : Hid (A = putAll _ _ U) := hA
      clear hA
      simp [Aft, Region.binds] at haf
      obtain ⟨fb, fk, fs, oX, oY, oR, oA, oB, f0, f1, f2, f3, f4, f5, f6, f7, f8, f9, s10, s11, m8, m9, d8_9⟩ := hF
      have g4 := f4 (by simp [haf])
      have e26 := rd HA.out 26 (by kernel_rfl) rfl
      refine ⟨?_⟩
      go_simp
      refine hK (upd U 21 (U 26)) _ _ ?_ ?_
      · rw [HA.out]; kernel_rfl
      · exact ⟨fb, fk, fs, oX, oY, oR, oA, oB, f0, f1, f2, f3, f4, (fun _ => g4), f6, f7, f8, f9, s10, s11, m8, m9, d8_9⟩
    refine StepsU.run rfl ?_ ?_
    · intro L U wr hF hlk haf A K hA hK
      have HA : Hid (A = putAll _ _ U) := hA
      clear hA
      simp [Aft, Region.binds] at haf
      obtain ⟨fb, fk, fs, oX, oY, oR, oA, oB, f0, f1, f2, f3, f4, f5, f6, f7, f8, f9, s10, s11, m8, m9, d8_9⟩ := hF
      have g5 := f5 (by simp [haf])
      obtain ⟨t0, t1, hT, k0, k1⟩ := g5
      have e21 := rd HA.out 21 (by kernel_rfl) hT
      refine ⟨?_⟩
      go_simp
      have hs10 : L 10 = false := by cases h : L 10 with | false => rfl | true => rw [s10 h] at hlk; cases hlk
      refine hK (upd U 27 t0) _ _ ?_ ?_
      · rw [HA.out]; kernel_rfl
      · exact ⟨fb, fk, fs, oX, oY, oR, oA, oB, f0, f1, f2, f3, f4, f5, (fun _ => k0), f7, (fun h => flip_v (P := fun v => NEW _ _ _ _ v) hs10 (f8 h)), f9, (fun _ => rfl), s11, m8, m9, d8_9⟩
    refine StepsU.run rfl ?_ ?_
    · intro L U wr hF hlk haf A K hA hK
      have HA : Hid (A = putAll _ _ U) := hA
      clear hA
      simp [Aft, Region.binds] at haf
      obtain ⟨fb, fk, fs, oX, oY, oR, oA, oB, f0, f1, f2, f3, f4, f5, f6, f7, f8, f9, s10, s11, m8, m9, d8_9⟩ := hF
      have g5 := f5 (by simp [haf])
      obtain ⟨t0, t1, hT, k0, k1⟩ := g5
      have e21 := rd HA.out 21 (by kernel_rfl) hT
      refine ⟨?_⟩
      go_simp
      have hs11 : L 11 = false := by cases h : L 11 with | false => rfl | true => rw [s11 h] at hlk; cases hlk
      refine hK (upd U 28 t1) _ _ ?_ ?_
      · rw [HA.out]; kernel_rfl
      · exact ⟨fb, fk, fs, oX, oY, oR, oA, oB, f0, f1, f2, f3, f4, f5, f6, (fun _ => k1), f8, (fun h => flip_v (P := fun v => NEW _ _ _ _ v) hs11 (f9 h)), s10, (fun _ => rfl), m8, m9, d8_9⟩
    refine StepsU.run rfl ?_ ?_
    · intro L U wr hF hlk haf A K hA hK
      have HA : Hid (A = putAll _ _ U) := hA
      clear hA
      simp [Aft, Region.binds] at haf
      obtain ⟨fb, fk, fs, oX, oY, oR, oA, oB, f0, f1, f2, f3, f4, f5, f6, f7, f8, f9, s10, s11, m8, m9, d8_9⟩ := hF
      have hst : L 10 = false := by cases h : L 10 with | false => rfl | true => rw [m8 h] at hlk; cases hlk
      refine ⟨?_⟩
      go_simp
      have hb := below_new wr (.cells #[.bool false, .slice none 0 0] 25 (0, 0))
      refine hK (upd U 8 (.pointer (some ⟨wr.heap.size, 0, none⟩))) _ _ ?_ ?_
      · rw [HA.out]; kernel_rfl
      · exact ⟨(fb.step hb (Nat.le_refl _)), (fk.trans (KeepI.below hb)), (Nat.le_trans fs hb.size), (oX.stay hb), (oY.stay hb), (oR.stay hb), (oA.stay hb), (oB.stay hb), (mv mo_is (KeepI.below hb) f0), (mv mo_is (KeepI.below hb) f1), (mv mo_is (KeepI.below hb) f2), (mv mo_int (KeepI.below hb) f3), (mv (mo_t2 mo_int mo_int) (KeepI.below hb) f4), (mv (mo_t2 mo_int mo_int) (KeepI.below hb) f5), (mv mo_int (KeepI.below hb) f6), (mv mo_int (KeepI.below hb) f7), (fun _ => new_zero hst (NEW.mk fs (noI2 _ _ _ _))), (fun h => (f9 h).below hb), s10, s11, (fun _ => rfl), m9, (fun _ h => (f9 h).apart.symm)⟩
    refine StepsU.run rfl ?_ ?_
    · intro L U wr hF hlk haf A K hA hK
      have HA : Hid (A = putAll _ _ U) := hA
      clear hA
      simp [Aft, Region.binds] at haf
      obtain ⟨fb, fk, fs, oX, oY, oR, oA, oB, f0, f1, f2, f3, f4, f5, f6, f7, f8, f9, s10, s11, m8, m9, d8_9⟩ := hF
      have hst : L 11 = false := by cases h : L 11 with | false => rfl | true => rw [m9 h] at hlk; cases hlk
      refine ⟨?_⟩
      go_simp
      have hb := below_new wr (.cells #[.bool false, .slice none 0 0] 25 (0, 0))
      refine hK (upd U 9 (.pointer (some ⟨wr.heap.size, 0, none⟩))) _ _ ?_ ?_
      · rw [HA.out]; kernel_rfl
      · exact ⟨(fb.step hb (Nat.le_refl _)), (fk.trans (KeepI.below hb)), (Nat.le_trans fs hb.size), (oX.stay hb), (oY.stay hb), (oR.stay hb), (oA.stay hb), (oB.stay hb), (mv mo_is (KeepI.below hb) f0), (mv mo_is (KeepI.below hb) f1), (mv mo_is (KeepI.below hb) f2), (mv mo_int (KeepI.below hb) f3), (mv (mo_t2 mo_int mo_int) (KeepI.below hb) f4), (mv (mo_t2 mo_int mo_int) (KeepI.below hb) f5), (mv mo_int (KeepI.below hb) f6), (mv mo_int (KeepI.below hb) f7), (fun h => (f8 h).below hb), (fun _ => new_zero hst (NEW.mk fs (noI2 _ _ _ _))), s10, s11, m8, (fun _ => rfl), (fun h _ => (f8 h).apart)⟩
    refine StepsU.run rfl ?_ ?_
    · intro L U wr hF hlk haf A K hA hK
      have HA : Hid (A = putAll _ _ U) := hA
      clear hA
      simp [Aft, Region.binds] at haf
      obtain ⟨fb, fk, fs, oX, oY, oR, oA, oB, f0, f1, f2, f3, f4, f5, f6, f7, f8, f9, s10, s11, m8, m9, d8_9⟩ := hF
      have g6 := f6 (by simp [haf])
      obtain ⟨px, pa, pn, pc, hsrc⟩ := AInt.shape g6
      have e27 := rd HA.out 27 (by kernel_rfl) hsrc
      have gA := f8 (by simp [haf])
      simp only [hlk, cond_false] at gA
      obtain ⟨b, cs, hp, hBb, hcs, hblk, -⟩ := gA
      injection hcs with hcs
      subst hcs
      have e8 := rd HA.out 8 (by kernel_rfl) hp
      obtain ⟨c0, c1, q0, q1⟩ := hblk.two
      refine ⟨?_⟩
      go_simp
      have hk := keepI_two hblk px pa pn pc
      refine hK U _ _ ?_ ?_
      · exact HA.out
      · exact ⟨(below_store2 fb (Nat.le_trans hbw.size hBb) _ _), (fk.trans hk), (by simpa using fs), (oX.other2 (Nat.ne_of_gt (Nat.lt_of_lt_of_le ltX hBb)) _ _), (oY.other2 (Nat.ne_of_gt (Nat.lt_of_lt_of_le ltY hBb)) _ _), (oR.other2 (Nat.ne_of_gt (Nat.lt_of_lt_of_le ltR hBb)) _ _), (oA.other2 (Nat.ne_of_gt (Nat.lt_of_lt_of_le ltA hBb)) _ _), (oB.other2 (Nat.ne_of_gt (Nat.lt_of_lt_of_le ltB hBb)) _ _), (mv mo_is hk f0), (mv mo_is hk f1), (mv mo_is hk f2), (mv mo_int hk f3), (mv (mo_t2 mo_int mo_int) hk f4), (mv (mo_t2 mo_int mo_int) hk f5), (mv mo_int hk f6), (mv mo_int hk f7), (fun _ => stored_new hp hsrc (NEW.over2 hBb hblk px pa pn pc)), (fun h => (f9 h).other2 (fun ee => ((d8_9 (by simp [haf]) h).symm) (ee.trans hp.symm)) _ _), (fun _ => by simp [haf]), s11, (fun _ => by simp [haf]), m9, d8_9⟩
    refine StepsU.run rfl ?_ StepsU.nil
    · intro L U wr hF hlk haf A K hA hK
      have HA : Hid (A = putAll _ _ U) := hA
      clear hA
      simp [Aft, Region.binds] at haf
      obtain ⟨fb, fk, fs, oX, oY, oR, oA, oB, f0, f1, f2, f3, f4, f5, f6, f7, f8, f9, s10, s11, m8, m9, d8_9⟩ := hF
      have g7 := f7 (by simp [haf])
      obtain ⟨px, pa, pn, pc, hsrc⟩ := AInt.shape g7
      have e28 := rd HA.out 28 (by kernel_rfl) hsrc
      have gA := f9 (by simp [haf])
      simp only [hlk, cond_false] at gA
      obtain ⟨b, cs, hp, hBb, hcs, hblk, -⟩ := gA
      injection hcs with hcs
      subst hcs
      have e9 := rd HA.out 9 (by kernel_rfl) hp
      obtain ⟨c0, c1, q0, q1⟩ := hblk.two
      refine ⟨?_⟩
      go_simp
      have hk := keepI_two hblk px pa pn pc
      refine hK U _ _ ?_ ?_
      · exact HA.out
      · exact ⟨(below_store2 fb (Nat.le_trans hbw.size hBb) _ _), (fk.trans hk), (by simpa using fs), (oX.other2 (Nat.ne_of_gt (Nat.lt_of_lt_of_le ltX hBb)) _ _), (oY.other2 (Nat.ne_of_gt (Nat.lt_of_lt_of_le ltY hBb)) _ _), (oR.other2 (Nat.ne_of_gt (Nat.lt_of_lt_of_le ltR hBb)) _ _), (oA.other2 (Nat.ne_of_gt (Nat.lt_of_lt_of_le ltA hBb)) _ _), (oB.other2 (Nat.ne_of_gt (Nat.lt_of_lt_of_le ltB hBb)) _ _), (mv mo_is hk f0), (mv mo_is hk f1), (mv mo_is hk f2), (mv mo_int hk f3), (mv (mo_t2 mo_int mo_int) hk f4), (mv (mo_t2 mo_int mo_int) hk f5), (mv mo_int hk f6), (mv mo_int hk f7), (fun h => (f8 h).other2 (fun ee => (d8_9 h (by simp [haf])) (ee.trans hp.symm)) _ _), (fun _ => stored_new hp hsrc (NEW.over2 hBb hblk px pa pn pc)), s10, (fun _ => by simp [haf]), m8, (fun _ => by simp [haf]), d8_9⟩
  intro L U2 V2 hall hF
  have hbw0 := hbw
  clear hbw
  obtain ⟨hbw, fk, fs, oX, oY, oR, oA, oB, f0, f1, f2, f3, f4, f5, f6, f7, f8, f9, s10, s11, m8, m9, d8_9⟩ := hF
  clear s10 s11 m8 m9
  have g0 := f0 (hall 0 (by decide))
  have g1 := f1 (hall 1 (by decide))
  have g2 := f2 (hall 2 (by decide))
  have g3 := f3 (hall 3 (by decide))
  have g4 := f4 (hall 4 (by decide))
  have g5 := f5 (hall 5 (by decide))
  have g6 := f6 (hall 6 (by decide))
  have g7 := f7 (hall 7 (by decide))
  have g8 := f8 (hall 8 (by decide))
  rw [hall 10 (by decide), cond_true] at g8
  have g9 := f9 (hall 9 (by decide))
  rw [hall 11 (by decide), cond_true] at g9
  replace d8_9 := d8_9 (hall 8 (by decide)) (hall 9 (by decide))
  clear hall f0 f1 f2 f3 f4 f5 f6 f7 f8 f9
  replace hX := hX.keepI fk
  replace hY := hY.keepI fk
  replace hA := hA.keepI fk
  replace hB := hB.keepI fk
  obtain ⟨bC, csC, hpC, lbC, hcsC, oC, -⟩ := g8
  obtain ⟨xC, aC, nC, cC, hvC⟩ := AInt.shape g6
  have hC : AInt _ _ _ := g6
  rw [hvC] at hC
  rw [hvC] at hcsC
  injection hcsC with hcsC
  subst hcsC
  have ltC := oC.lt
  obtain ⟨bE, csE, hpE, lbE, hcsE, oE, -⟩ := g9
  obtain ⟨xE, aE, nE, cE, hvE⟩ := AInt.shape g7
  have hE : AInt _ _ _ := g7
  rw [hvE] at hE
  rw [hvE] at hcsE
  injection hcsE with hcsE
  subst hcsE
  have ltE := oE.lt
  have neCE : bC ≠ bE := fun h => d8_9 (by rw [hpC, hpE, h])
  clear d8_9
  have neXC : w.heap.size ≠ bC := Nat.ne_of_lt (Nat.lt_of_lt_of_le ltX lbC)
  have neYC : w.heap.size + 1 ≠ bC := Nat.ne_of_lt (Nat.lt_of_lt_of_le ltY lbC)
  have neRC : w.heap.size + 1 + 1 ≠ bC := Nat.ne_of_lt (Nat.lt_of_lt_of_le ltR lbC)
  have neAC : bA ≠ bC := Nat.ne_of_lt (Nat.lt_of_lt_of_le ltA lbC)
  have neBC : bB ≠ bC := Nat.ne_of_lt (Nat.lt_of_lt_of_le ltB lbC)
  have lwC : w.heap.size ≤ bC := Nat.le_trans hbw0.size lbC
  have neXE : w.heap.size ≠ bE := Nat.ne_of_lt (Nat.lt_of_lt_of_le ltX lbE)
  have neYE : w.heap.size + 1 ≠ bE := Nat.ne_of_lt (Nat.lt_of_lt_of_le ltY lbE)
  have neRE : w.heap.size + 1 + 1 ≠ bE := Nat.ne_of_lt (Nat.lt_of_lt_of_le ltR lbE)
  have neAE : bA ≠ bE := Nat.ne_of_lt (Nat.lt_of_lt_of_le ltA lbE)
  have neBE : bB ≠ bE := Nat.ne_of_lt (Nat.lt_of_lt_of_le ltB lbE)
  have lwE : w.heap.size ≤ bE := Nat.le_trans hbw0.size lbE
  clear lbC lbE
  replace ltX := Nat.lt_of_lt_of_le ltX fs
  replace ltY := Nat.lt_of_lt_of_le ltY fs
  replace ltR := Nat.lt_of_lt_of_le ltR fs
  replace ltA := Nat.lt_of_lt_of_le ltA fs
  replace ltB := Nat.lt_of_lt_of_le ltB fs
  clear g0
  clear g1
  clear g2
  clear g3
  clear g4
  clear g5
  clear g6
  clear g7
  clear hbw0
  simp only [setM_some, setM_none, setM_nil]
  rw [hpC, hpE]
  clear hpC hpE hvC hvE
  clear fk fs
  have HM : Hid ((x1 * y1).num = mN x1 y1 * mN y1 x1 ∧ ((x1 * y1).den : Int) = mD y1 x1 * mD x1 y1) := mul_parts x1 y1
  by_cases g1 : (mN x1 y1 * mN y1 x1).natAbs < lim
  · have E1 := ec_of g1
    have H1 : Hid ((mN x1 y1 * mN y1 x1).natAbs < lim) := g1
    clear g1
    obtain ⟨Ac0, Ac1, Aq0, Aq1⟩ := oA.two
    obtain ⟨Cc0, Cc1, Cq0, Cq1⟩ := oC.two
    go_wp2_with fail
    refine (mul_h _ _ (mN x1 y1) (mN y1 x1) _ hA hC).mono ?_
    rintro e w3 ⟨xN, aN, nN, cN, rfl, hN, hb⟩
    clear Ac0 Ac1 Aq0 Aq1
    clear Cc0 Cc1 Cq0 Cq1
    replace oX := oX.stay hb
    replace ltX := oX.lt
    replace oY := oY.stay hb
    replace ltY := oY.lt
    replace oR := oR.stay hb
    replace ltR := oR.lt
    replace oA := oA.stay hb
    replace ltA := oA.lt
    replace oB := oB.stay hb
    replace ltB := oB.lt
    replace oC := oC.stay hb
    replace ltC := oC.lt
    replace oE := oE.stay hb
    replace ltE := oE.lt
    replace hX := hX.below hb
    replace hY := hY.below hb
    replace hA := hA.below hb
    replace hB := hB.below hb
    replace hC := hC.below hb
    replace hE := hE.below hb
    replace hbw := hbw.step hb (Nat.le_refl _)
    clear hb
    rw [hz_of H1.out] at hN
    have hn := below_new w3 (.cells #[.bool xN, .slice aN nN cN] 25 (0, 0))
    have oN := Blk.new w3 25 #[.bool xN, .slice aN nN cN]
    have neXN : w.heap.size ≠ w3.heap.size := Nat.ne_of_lt ltX
    have neYN : w.heap.size + 1 ≠ w3.heap.size := Nat.ne_of_lt ltY
    have neRN : w.heap.size + 1 + 1 ≠ w3.heap.size := Nat.ne_of_lt ltR
    have neAN : bA ≠ w3.heap.size := Nat.ne_of_lt ltA
    have neBN : bB ≠ w3.heap.size := Nat.ne_of_lt ltB
    have neCN : bC ≠ w3.heap.size := Nat.ne_of_lt ltC
    have neEN : bE ≠ w3.heap.size := Nat.ne_of_lt ltE
    have lwN : w.heap.size ≤ w3.heap.size := hbw.size
    replace oX := oX.stay hn
    replace ltX := oX.lt
    replace oY := oY.stay hn
    replace ltY := oY.lt
    replace oR := oR.stay hn
    replace ltR := oR.lt
    replace oA := oA.stay hn
    replace ltA := oA.lt
    replace oB := oB.stay hn
    replace ltB := oB.lt
    replace oC := oC.stay hn
    replace ltC := oC.lt
    replace oE := oE.stay hn
    replace ltE := oE.lt
    replace hX := hX.below hn
    replace hY := hY.below hn
    replace hA := hA.below hn
    replace hB := hB.below hn
    replace hC := hC.below hn
    replace hE := hE.below hn
    replace hN := hN.below hn
    replace hbw := hbw.step hn (Nat.le_refl _)
    clear hn
    have ltN := oN.lt
    by_cases g2 : (mD y1 x1 * mD x1 y1).natAbs < lim
    · have E2 := ec_of g2
      have H2 : Hid (mFits x1 y1) := ⟨by rw [HM.out.1]; exact H1.out, by rw [HM.out.2]; exact g2⟩
      have H3 : Hid ((mD y1 x1 * mD x1 y1).natAbs < lim) := g2
      clear g2
      obtain ⟨Ec0, Ec1, Eq0, Eq1⟩ := oE.two
      obtain ⟨Bc0, Bc1, Bq0, Bq1⟩ := oB.two
      go_wp2_with fail
      refine (mul_h _ _ (mD y1 x1) (mD x1 y1) _ hE hB).mono ?_
      rintro e w4 ⟨xD, aD', nD, cD, rfl, hD, hb⟩
      clear Ec0 Ec1 Eq0 Eq1
      clear Bc0 Bc1 Bq0 Bq1
      replace oX := oX.stay hb
      replace ltX := oX.lt
      replace oY := oY.stay hb
      replace ltY := oY.lt
      replace oR := oR.stay hb
      replace ltR := oR.lt
      replace oA := oA.stay hb
      replace ltA := oA.lt
      replace oB := oB.stay hb
      replace ltB := oB.lt
      replace oC := oC.stay hb
      replace ltC := oC.lt
      replace oE := oE.stay hb
      replace ltE := oE.lt
      replace oN := oN.stay hb
      replace ltN := oN.lt
      replace hX := hX.below hb
      replace hY := hY.below hb
      replace hA := hA.below hb
      replace hB := hB.below hb
      replace hC := hC.below hb
      replace hE := hE.below hb
      replace hN := hN.below hb
      replace hbw := hbw.step hb (Nat.le_refl _)
      clear hb
      rw [hz_of H3.out] at hD
      have hn := below_new w4 (.cells #[.bool xD, .slice aD' nD cD] 25 (0, 0))
      have oD := Blk.new w4 25 #[.bool xD, .slice aD' nD cD]
      have neXD : w.heap.size ≠ w4.heap.size := Nat.ne_of_lt ltX
      have neYD : w.heap.size + 1 ≠ w4.heap.size := Nat.ne_of_lt ltY
      have neRD : w.heap.size + 1 + 1 ≠ w4.heap.size := Nat.ne_of_lt ltR
      have neAD : bA ≠ w4.heap.size := Nat.ne_of_lt ltA
      have neBD : bB ≠ w4.heap.size := Nat.ne_of_lt ltB
      have neCD : bC ≠ w4.heap.size := Nat.ne_of_lt ltC
      have neED : bE ≠ w4.heap.size := Nat.ne_of_lt ltE
      have neND : w3.heap.size ≠ w4.heap.size := Nat.ne_of_lt ltN
      have lwD : w.heap.size ≤ w4.heap.size := hbw.size
      replace oX := oX.stay hn
      replace ltX := oX.lt
      replace oY := oY.stay hn
      replace ltY := oY.lt
      replace oR := oR.stay hn
      replace ltR := oR.lt
      replace oA := oA.stay hn
      replace ltA := oA.lt
      replace oB := oB.stay hn
      replace ltB := oB.lt
      replace oC := oC.stay hn
      replace ltC := oC.lt
      replace oE := oE.stay hn
      replace ltE := oE.lt
      replace oN := oN.stay hn
      replace ltN := oN.lt
      replace hX := hX.below hn
      replace hY := hY.below hn
      replace hA := hA.below hn
      replace hB := hB.below hn
      replace hC := hC.below hn
      replace hE := hE.below hn
      replace hN := hN.below hn
      replace hD := hD.below hn
      replace hbw := hbw.step hn (Nat.le_refl _)
      clear hn
      have ltD := oD.lt
      obtain ⟨Nc0, Nc1, Nq0, Nq1⟩ := oN.two
      obtain ⟨Dc0, Dc1, Dq0, Dq1⟩ := oD.two
      go_wp2_with fail
      refine (lowest_any _ _ _ _ (x1 * y1) _ hN hD HM.out.1 HM.out.2).mono ?_
      rintro e w5 ⟨j1, j2, j3, j4, j5, j6, j7, j8, rfl, hQ, hb⟩
      clear Nc0 Nc1 Nq0 Nq1
      clear Dc0 Dc1 Dq0 Dq1
      replace oX := oX.stay hb
      replace ltX := oX.lt
      replace oY := oY.stay hb
      replace ltY := oY.lt
      replace oR := oR.stay hb
      replace ltR := oR.lt
      replace oA := oA.stay hb
      replace ltA := oA.lt
      replace oB := oB.stay hb
      replace ltB := oB.lt
      replace oC := oC.stay hb
      replace ltC := oC.lt
      replace oE := oE.stay hb
      replace ltE := oE.lt
      replace oN := oN.stay hb
      replace ltN := oN.lt
      replace oD := oD.stay hb
      replace ltD := oD.lt
      replace hX := hX.below hb
      replace hY := hY.below hb
      replace hA := hA.below hb
      replace hB := hB.below hb
      replace hC := hC.below hb
      replace hE := hE.below hb
      replace hN := hN.below hb
      replace hD := hD.below hb
      replace hbw := hbw.step hb (Nat.le_refl _)
      clear hb
      obtain ⟨Rc0, Rc1, Rc2, Rc3⟩ := oR.four
      obtain ⟨Rq0, Rq1, Rq2, Rq3⟩ := oR.frozen4
      try simp only []
      try go_at_K
      repeat (first | go_values | go_skip | go_guarded | go_step | go_upon)
      refine bodyPost_ret (v := (.tuple #[.agg #[.bool j1, .slice j2 j3 j4, .bool j5, .slice j6 j7 j8], .int .i64 0])) (by simp [results, Tryz.results8, go_sem, Rc0, Rc1, Rc2, Rc3]) rfl ?_
      refine ⟨_, _, _, _, _, _, _, _, by rw [mulC_yes H2.out], ?_, below_store4 hbw (by omega) _ _ _ _⟩
      rw [mulZ_yes H2.out]
      exact hQ.keepI (keepI_four (noI_slice _ _ _) (noI_slice _ _ _) oR _ _ _ _ _ _ _ _)
    · have E2 := ec_not g2
      have HN : Hid (¬ mFits x1 y1) := fun h => g2 (by rw [← HM.out.2]; exact h.2)
      clear g2
      obtain ⟨Ec0, Ec1, Eq0, Eq1⟩ := oE.two
      obtain ⟨Bc0, Bc1, Bq0, Bq1⟩ := oB.two
      go_wp2_with fail
      refine (mul_h _ _ (mD y1 x1) (mD x1 y1) _ hE hB).mono ?_
      rintro e w4 ⟨xD, aD', nD, cD, rfl, hD, hb⟩
      clear Ec0 Ec1 Eq0 Eq1
      clear Bc0 Bc1 Bq0 Bq1
      replace oX := oX.stay hb
      replace ltX := oX.lt
      replace oY := oY.stay hb
      replace ltY := oY.lt
      replace oR := oR.stay hb
      replace ltR := oR.lt
      replace oA := oA.stay hb
      replace ltA := oA.lt
      replace oB := oB.stay hb
      replace ltB := oB.lt
      replace oC := oC.stay hb
      replace ltC := oC.lt
      replace oE := oE.stay hb
      replace ltE := oE.lt
      replace oN := oN.stay hb
      replace ltN := oN.lt
      replace hX := hX.below hb
      replace hY := hY.below hb
      replace hA := hA.below hb
      replace hB := hB.below hb
      replace hC := hC.below hb
      replace hE := hE.below hb
      replace hN := hN.below hb
      replace hbw := hbw.step hb (Nat.le_refl _)
      clear hb
      have hn := below_new w4 (.cells #[.bool xD, .slice aD' nD cD] 25 (0, 0))
      have oD := Blk.new w4 25 #[.bool xD, .slice aD' nD cD]
      have neXD : w.heap.size ≠ w4.heap.size := Nat.ne_of_lt ltX
      have neYD : w.heap.size + 1 ≠ w4.heap.size := Nat.ne_of_lt ltY
      have neRD : w.heap.size + 1 + 1 ≠ w4.heap.size := Nat.ne_of_lt ltR
      have neAD : bA ≠ w4.heap.size := Nat.ne_of_lt ltA
      have neBD : bB ≠ w4.heap.size := Nat.ne_of_lt ltB
      have neCD : bC ≠ w4.heap.size := Nat.ne_of_lt ltC
      have neED : bE ≠ w4.heap.size := Nat.ne_of_lt ltE
      have neND : w3.heap.size ≠ w4.heap.size := Nat.ne_of_lt ltN
      have lwD : w.heap.size ≤ w4.heap.size := hbw.size
      replace oX := oX.stay hn
      replace ltX := oX.lt
      replace oY := oY.stay hn
      replace ltY := oY.lt
      replace oR := oR.stay hn
      replace ltR := oR.lt
      replace oA := oA.stay hn
      replace ltA := oA.lt
      replace oB := oB.stay hn
      replace ltB := oB.lt
      replace oC := oC.stay hn
      replace ltC := oC.lt
      replace oE := oE.stay hn
      replace ltE := oE.lt
      replace oN := oN.stay hn
      replace ltN := oN.lt
      replace hX := hX.below hn
      replace hY := hY.below hn
      replace hA := hA.below hn
      replace hB := hB.below hn
      replace hC := hC.below hn
      replace hE := hE.below hn
      replace hN := hN.below hn
      replace hbw := hbw.step hn (Nat.le_refl _)
      clear hn
      have ltD := oD.lt
      obtain ⟨Rc0, Rc1, Rc2, Rc3⟩ := oR.four
      obtain ⟨Rq0, Rq1, Rq2, Rq3⟩ := oR.frozen4
      try simp only []
      try go_at_K
      repeat (first | go_values | go_skip | go_guarded | go_step | go_upon)
      refine bodyPost_ret (v := (.tuple #[.agg #[.bool false, .slice none 0 0, .bool false, .slice none 0 0], .int .i64 11])) (by simp [results, Tryz.results8, go_sem, Rc0, Rc1, Rc2, Rc3, E2]) rfl ?_
      refine ⟨_, _, _, _, _, _, _, _, by rw [mulC_no HN.out], ?_, ?_⟩
      · rw [mulZ_no HN.out]; exact QP.zero
      · first | exact hbw | exact below_store4 hbw (by omega) _ _ _ _
  · have E1 := ec_not g1
    have HN : Hid (¬ mFits x1 y1) := fun h => g1 (by rw [← HM.out.1]; exact h.1)
    clear g1
    obtain ⟨Ac0, Ac1, Aq0, Aq1⟩ := oA.two
    obtain ⟨Cc0, Cc1, Cq0, Cq1⟩ := oC.two
    go_wp2_with fail
    refine (mul_h _ _ (mN x1 y1) (mN y1 x1) _ hA hC).mono ?_
    rintro e w3 ⟨xN, aN, nN, cN, rfl, hN, hb⟩
    clear Ac0 Ac1 Aq0 Aq1
    clear Cc0 Cc1 Cq0 Cq1
    replace oX := oX.stay hb
    replace ltX := oX.lt
    replace oY := oY.stay hb
    replace ltY := oY.lt
    replace oR := oR.stay hb
    replace ltR := oR.lt
    replace oA := oA.stay hb
    replace ltA := oA.lt
    replace oB := oB.stay hb
    replace ltB := oB.lt
    replace oC := oC.stay hb
    replace ltC := oC.lt
    replace oE := oE.stay hb
    replace ltE := oE.lt
    replace hX := hX.below hb
    replace hY := hY.below hb
    replace hA := hA.below hb
    replace hB := hB.below hb
    replace hC := hC.below hb
    replace hE := hE.below hb
    replace hbw := hbw.step hb (Nat.le_refl _)
    clear hb
    have hn := below_new w3 (.cells #[.bool xN, .slice aN nN cN] 25 (0, 0))
    have oN := Blk.new w3 25 #[.bool xN, .slice aN nN cN]
    have neXN : w.heap.size ≠ w3.heap.size := Nat.ne_of_lt ltX
    have neYN : w.heap.size + 1 ≠ w3.heap.size := Nat.ne_of_lt ltY
    have neRN : w.heap.size + 1 + 1 ≠ w3.heap.size := Nat.ne_of_lt ltR
    have neAN : bA ≠ w3.heap.size := Nat.ne_of_lt ltA
    have neBN : bB ≠ w3.heap.size := Nat.ne_of_lt ltB
    have neCN : bC ≠ w3.heap.size := Nat.ne_of_lt ltC
    have neEN : bE ≠ w3.heap.size := Nat.ne_of_lt ltE
    have lwN : w.heap.size ≤ w3.heap.size := hbw.size
    replace oX := oX.stay hn
    replace ltX := oX.lt
    replace oY := oY.stay hn
    replace ltY := oY.lt
    replace oR := oR.stay hn
    replace ltR := oR.lt
    replace oA := oA.stay hn
    replace ltA := oA.lt
    replace oB := oB.stay hn
    replace ltB := oB.lt
    replace oC := oC.stay hn
    replace ltC := oC.lt
    replace oE := oE.stay hn
    replace ltE := oE.lt
    replace hX := hX.below hn
    replace hY := hY.below hn
    replace hA := hA.below hn
    replace hB := hB.below hn
    replace hC := hC.below hn
    replace hE := hE.below hn
    replace hbw := hbw.step hn (Nat.le_refl _)
    clear hn
    have ltN := oN.lt
    obtain ⟨Rc0, Rc1, Rc2, Rc3⟩ := oR.four
    obtain ⟨Rq0, Rq1, Rq2, Rq3⟩ := oR.frozen4
    try simp only []
    try go_at_K
    repeat (first | go_values | go_skip | go_guarded | go_step | go_upon)
    refine bodyPost_ret (v := (.tuple #[.agg #[.bool false, .slice none 0 0, .bool false, .slice none 0 0], .int .i64 11])) (by simp [results, Tryz.results8, go_sem, Rc0, Rc1, Rc2, Rc3, E1]) rfl ?_
    refine ⟨_, _, _, _, _, _, _, _, by rw [mulC_no HN.out], ?_, ?_⟩
    · rw [mulZ_no HN.out]; exact QP.zero
    · first | exact hbw | exact below_store4 hbw (by omega) _ _ _ _

set_option maxRecDepth 20000 in
set_option maxHeartbeats 8000000 in
theorem qsub_any (vX vY : Value) (x1 y1 : Rat) (w : World) (hX : QV w vX x1) (hY : QV w vY y1) :
    Calls Tryz.prog 7 #[vX, vY] w fun e w' => ∃ s1 s2 s3 s4 s5 s6 s7 s8, e = .returned (.tuple #[.agg #[.bool s1, .slice s2 s3 s4, .bool s5, .slice s6 s7 s8], .int .i64 (addC x1 (-y1))]) ∧ QP w' s1 s2 s3 s4 s5 s6 s7 s8 (addZ x1 (-y1)) ∧ Below w.heap.size w w' := by
  obtain ⟨xX, aX, nX, cX, yX, eX, mX, fX, rfl, hX⟩ := hX
  obtain ⟨xY, aY, nY, cY, yY, eY, mY, fY, rfl, hY⟩ := hY
  have oX := (((Blk.new w 27 #[.bool xX, .slice aX nX cX, .bool yX, .slice eX mX fX]).alloc (.cells #[.bool xY, .slice aY nY cY, .bool yY, .slice eY mY fY] 27 (0, 0))).alloc (.cells #[.bool false, .slice none 0 0, .bool false, .slice none 0 0] 27 (0, 0)))
  have oY := ((Blk.new (w.alloc (.cells #[.bool xX, .slice aX nX cX, .bool yX, .slice eX mX fX] 27 (0, 0))) 27 #[.bool xY, .slice aY nY cY, .bool yY, .slice eY mY fY]).alloc (.cells #[.bool false, .slice none 0 0, .bool false, .slice none 0 0] 27 (0, 0)))
  have oR := (Blk.new ((w.alloc (.cells #[.bool xX, .slice aX nX cX, .bool yX, .slice eX mX fX] 27 (0, 0))).alloc (.cells #[.bool xY, .slice aY nY cY, .bool yY, .slice eY mY fY] 27 (0, 0))) 27 #[.bool false, .slice none 0 0, .bool false, .slice none 0 0])
  simp only [World.size_alloc] at oY oR
  have hbw : Below w.heap.size w (((w.alloc (.cells #[.bool xX, .slice aX nX cX, .bool yX, .slice eX mX fX] 27 (0, 0))).alloc (.cells #[.bool xY, .slice aY nY cY, .bool yY, .slice eY mY fY] 27 (0, 0))).alloc (.cells #[.bool false, .slice none 0 0, .bool false, .slice none 0 0] 27 (0, 0))) := by go_grown
  replace hX := hX.below hbw
  replace hY := hY.below hbw
  have ltX := oX.lt
  have ltY := oY.lt
  have ltR := oR.lt
  go_enter Tryz.func7, Tryz.ntmps7
  go_wp2
  generalize (((w.alloc (.cells #[.bool xX, .slice aX nX cX, .bool yX, .slice eX mX fX] 27 (0, 0))).alloc (.cells #[.bool xY, .slice aY nY cY, .bool yY, .slice eY mY fY] 27 (0, 0))).alloc (.cells #[.bool false, .slice none 0 0, .bool false, .slice none 0 0] 27 (0, 0))) = W0 at hbw oX oY oR ltX ltY ltR hX hY ⊢
  have rR := oR
  clear oR
  have geR : w.heap.size ≤ w.heap.size + 1 + 1 := by omega
  have neRX : w.heap.size + 1 + 1 ≠ w.heap.size := by omega
  have neRY : w.heap.size + 1 + 1 ≠ w.heap.size + 1 := by omega
  refine wp_region_M (by kernel_rfl) [5, 6, 7, 8, 9, 10, 11] [none, none, none, none, none, some 5, some 6, some 7, some 8, some 9, some 10, some 11] (fun U => by kernel_rfl) (fun L U wr => Below w.heap.size w wr ∧ KeepI W0 wr ∧ W0.heap.size ≤ wr.heap.size ∧ Blk 27 wr (w.heap.size) #[.bool xX, .slice aX nX cX, .bool yX, .slice eX mX fX] ∧ Blk 27 wr (w.heap.size + 1) #[.bool xY, .slice aY nY cY, .bool yY, .slice eY mY fY] ∧ BlkV 27 wr (w.heap.size + 1 + 1) (bif L 6 then U 10 else .agg #[.bool false, .slice none 0 0, .bool false, .slice none 0 0]) ∧ (L 0 = true → IS (.agg #[.bool xX, .slice aX nX cX, .bool yX, .slice eX mX fX]) (U 6) wr) ∧ (L 1 = true → IS (.agg #[.bool xY, .slice aY nY cY, .bool yY, .slice eY mY fY]) (U 7) wr) ∧ (L 2 = true → RAT (-y1) (U 8) wr) ∧ (L 3 = true → T2 (RAT (addZ x1 (-y1))) (IS (.int .i64 (addC x1 (-y1)))) (U 9) wr) ∧ (L 4 = true → RAT (addZ x1 (-y1)) (U 10) wr) ∧ (L 5 = true → IS (.int .i64 (addC x1 (-y1))) (U 11) wr) ∧ (L 7 = true → IS (.int .i64 (addC x1 (-y1))) (U 5) wr) ∧ (L 6 = true → L 4 = true)) (by kernel_rfl) ?_ ?_ ?_
  · exact fun U => ⟨hbw.drew, KeepI.below (Below.refl _ _).drew, Nat.le_refl _, oX.drew, oY.drew, ⟨_, rfl, rR.drew⟩, (fun h => by cases h), (fun h => by cases h), (fun h => by cases h), (fun h => by cases h), (fun h => by cases h), (fun h => by cases h), (fun h => by cases h), (fun h => by cases h)⟩
  · refine StepsU.run rfl ?_ ?_
    · intro L U wr hF hlk haf A K hA hK
      have HA : Hid (A = putAll _ _ U) := hA
      clear hA
      simp [Aft, Region.binds] at haf
      obtain ⟨fb, fk, fs, oX, oY, rR, f0, f1, f2, f3, f4, f5, f7, s6⟩ := hF
      have e2 : A.tmps[2]? = some (.pointer (some ⟨w.heap.size, 0, none⟩)) := by rw [HA.out]; kernel_rfl
      obtain ⟨c0, c1, c2, c3⟩ := oX.four
      refine ⟨?_⟩
      go_simp
      refine hK (upd U 6 (.agg #[.bool xX, .slice aX nX cX, .bool yX, .slice eX mX fX])) _ _ ?_ ?_
      · rw [HA.out]; kernel_rfl
      · exact ⟨fb, fk, fs, oX, oY, rR, (fun _ => rfl), f1, f2, f3, f4, f5, f7, s6⟩
    refine StepsU.run rfl ?_ ?_
    · intro L U wr hF hlk haf A K hA hK
      have HA : Hid (A = putAll _ _ U) := hA
      clear hA
      simp [Aft, Region.binds] at haf
      obtain ⟨fb, fk, fs, oX, oY, rR, f0, f1, f2, f3, f4, f5, f7, s6⟩ := hF
      have e3 : A.tmps[3]? = some (.pointer (some ⟨w.heap.size + 1, 0, none⟩)) := by rw [HA.out]; kernel_rfl
      obtain ⟨c0, c1, c2, c3⟩ := oY.four
      refine ⟨?_⟩
      go_simp
      refine hK (upd U 7 (.agg #[.bool xY, .slice aY nY cY, .bool yY, .slice eY mY fY])) _ _ ?_ ?_
      · rw [HA.out]; kernel_rfl
      · exact ⟨fb, fk, fs, oX, oY, rR, f0, (fun _ => rfl), f2, f3, f4, f5, f7, s6⟩
    refine StepsU.run rfl ?_ ?_
    · intro L U wr hF hlk haf A K hA hK
      have HA : Hid (A = putAll _ _ U) := hA
      clear hA
      simp [Aft, Region.binds] at haf
      obtain ⟨fb, fk, fs, oX, oY, rR, f0, f1, f2, f3, f4, f5, f7, s6⟩ := hF
      have g1 := f1 (by simp [haf])
      have e7 := rd HA.out 7 (by kernel_rfl) g1
      refine ⟨?_⟩
      go_simp
      refine (qneg_any _ y1 _ (hY.val.keepI fk)).mono ?_
      rintro e w1 ⟨j1, j2, j3, j4, j5, j6, j7, j8, rfl, hr, hb⟩
      go_simp
      refine hK (upd U 8 (.agg #[.bool j1, .slice j2 j3 j4, .bool j5, .slice j6 j7 j8])) _ _ ?_ ?_
      · rw [HA.out]; kernel_rfl
      · exact ⟨(fb.step hb (Nat.le_refl _)), (fk.trans (KeepI.below hb)), (Nat.le_trans fs hb.size), (oX.stay hb), (oY.stay hb), (rR.stay hb), (mv mo_is (KeepI.below hb) f0), (mv mo_is (KeepI.below hb) f1), (fun _ => hr.val), (mv (mo_t2 mo_rat mo_is) (KeepI.below hb) f3), (mv mo_rat (KeepI.below hb) f4), (mv mo_is (KeepI.below hb) f5), (mv mo_is (KeepI.below hb) f7), s6⟩
    refine StepsU.run rfl ?_ ?_
    · intro L U wr hF hlk haf A K hA hK
      have HA : Hid (A = putAll _ _ U) := hA
      clear hA
      simp [Aft, Region.binds] at haf
      obtain ⟨fb, fk, fs, oX, oY, rR, f0, f1, f2, f3, f4, f5, f7, s6⟩ := hF
      have g0 := f0 (by simp [haf])
      have e6 := rd HA.out 6 (by kernel_rfl) g0
      have g2 := f2 (by simp [haf])
      have e8 := rd HA.out 8 (by kernel_rfl) rfl
      refine ⟨?_⟩
      go_simp
      refine (qadd_any _ _ x1 (-y1) _ (hX.val.keepI fk) g2).mono ?_
      rintro e w1 ⟨j1, j2, j3, j4, j5, j6, j7, j8, rfl, hr, hb⟩
      go_simp
      refine hK (upd U 9 (.tuple #[.agg #[.bool j1, .slice j2 j3 j4, .bool j5, .slice j6 j7 j8], .int .i64 (addC x1 (-y1))])) _ _ ?_ ?_
      · rw [HA.out]; kernel_rfl
      · exact ⟨(fb.step hb (Nat.le_refl _)), (fk.trans (KeepI.below hb)), (Nat.le_trans fs hb.size), (oX.stay hb), (oY.stay hb), (rR.stay hb), (mv mo_is (KeepI.below hb) f0), (mv mo_is (KeepI.below hb) f1), (mv mo_rat (KeepI.below hb) f2), (fun _ => ⟨_, _, rfl, hr.val, rfl⟩), (mv mo_rat (KeepI.below hb) f4), (mv mo_is (KeepI.below hb) f5), (mv mo_is (KeepI.below hb) f7), s6⟩
    refine StepsU.run rfl ?_ ?_
    · intro L U wr hF hlk haf A K hA hK
      have HA : Hid (A = putAll _ _ U) := hA
      clear hA
      simp [Aft, Region.binds] at haf
      obtain ⟨fb, fk, fs, oX, oY, rR, f0, f1, f2, f3, f4, f5, f7, s6⟩ := hF
      have g3 := f3 (by simp [haf])
      obtain ⟨t0, t1, hT, k0, k1⟩ := g3
      have e9 := rd HA.out 9 (by kernel_rfl) hT
      refine ⟨?_⟩
      go_simp
      have hs6 : L 6 = false := by cases h : L 6 with | false => rfl | true => rw [s6 h] at hlk; cases hlk
      refine hK (upd U 10 t0) _ _ ?_ ?_
      · rw [HA.out]; kernel_rfl
      · exact ⟨fb, fk, fs, oX, oY, (flip_v (P := fun v => BlkV _ _ _ v) hs6 rR), f0, f1, f2, f3, (fun _ => k0), f5, f7, (fun _ => rfl)⟩
    refine StepsU.run rfl ?_ ?_
    · intro L U wr hF hlk haf A K hA hK
      have HA : Hid (A = putAll _ _ U) := hA
      clear hA
      simp [Aft, Region.binds] at haf
      obtain ⟨fb, fk, fs, oX, oY, rR, f0, f1, f2, f3, f4, f5, f7, s6⟩ := hF
      have g3 := f3 (by simp [haf])
      obtain ⟨t0, t1, hT, k0, k1⟩ := g3
      have e9 := rd HA.out 9 (by kernel_rfl) hT
      refine ⟨?_⟩
      go_simp
      refine hK (upd U 11 t1) _ _ ?_ ?_
      · rw [HA.out]; kernel_rfl
      · exact ⟨fb, fk, fs, oX, oY, rR, f0, f1, f2, f3, f4, (fun _ => k1), f7, s6⟩
    refine StepsU.run rfl ?_ ?_
    · intro L U wr hF hlk haf A K hA hK
      have HA : Hid (A = putAll _ _ U) := hA
      clear hA
      simp [Aft, Region.binds] at haf
      obtain ⟨fb, fk, fs, oX, oY, rR, f0, f1, f2, f3, f4, f5, f7, s6⟩ := hF
      have g4 := f4 (by simp [haf])
      obtain ⟨px, pa, pn, pc, qx, qa, qn, qc, hsrc, -⟩ := g4
      have e10 := rd HA.out 10 (by kernel_rfl) hsrc
      have e4 : A.tmps[4]? = some (.pointer (some ⟨w.heap.size + 1 + 1, 0, none⟩)) := by rw [HA.out]; kernel_rfl
      simp only [hlk, cond_false] at rR
      obtain ⟨cs, hcs, hblk⟩ := rR
      injection hcs with hcs
      subst hcs
      obtain ⟨c0, c1, c2, c3⟩ := hblk.four
      obtain ⟨q0, q1, q2, q3⟩ := hblk.frozen4
      refine ⟨?_⟩
      go_simp
      have hk := keepI_four (noI_slice _ _ _) (noI_slice _ _ _) hblk px pa pn pc qx qa qn qc
      refine hK U _ _ ?_ ?_
      · exact HA.out
      · exact ⟨(below_store4 fb geR _ _ _ _), (fk.trans hk), (by simpa using fs), (oX.other4 neRX _ _ _ _), (oY.other4 neRY _ _ _ _), (stored_old hsrc (hblk.over4 _ _ _ _)), (mv mo_is hk f0), (mv mo_is hk f1), (mv mo_rat hk f2), (mv (mo_t2 mo_rat mo_is) hk f3), (mv mo_rat hk f4), (mv mo_is hk f5), (mv mo_is hk f7), (fun _ => by simp [haf])⟩
    refine StepsU.run rfl ?_ StepsU.nil
    · intro L U wr hF hlk haf A K hA hK
      have HA : Hid (A = putAll _ _ U) := hA
      clear hA
      simp [Aft, Region.binds] at haf
      obtain ⟨fb, fk, fs, oX, oY, rR, f0, f1, f2, f3, f4, f5, f7, s6⟩ := hF
      have g5 := f5 (by simp [haf])
      have e11 := rd HA.out 11 (by kernel_rfl) rfl
      refine ⟨?_⟩
      go_simp
      refine hK (upd U 5 (U 11)) _ _ ?_ ?_
      · rw [HA.out]; kernel_rfl
      · exact ⟨fb, fk, fs, oX, oY, rR, f0, f1, f2, f3, f4, f5, (fun _ => g5), s6⟩
  intro L U1 V1 hall hF
  have hbw0 := hbw
  clear hbw
  obtain ⟨hbw, fk, fs, oX, oY, rR, f0, f1, f2, f3, f4, f5, f7, s6⟩ := hF
  clear s6
  have g0 := f0 (hall 0 (by decide))
  have g1 := f1 (hall 1 (by decide))
  have g2 := f2 (hall 2 (by decide))
  have g3 := f3 (hall 3 (by decide))
  have g4 := f4 (hall 4 (by decide))
  have g5 := f5 (hall 5 (by decide))
  have g7 := f7 (hall 7 (by decide))
  rw [hall 6 (by decide), cond_true] at rR
  clear hall f0 f1 f2 f3 f4 f5 f7
  replace hX := hX.keepI fk
  replace hY := hY.keepI fk
  replace ltX := Nat.lt_of_lt_of_le ltX fs
  replace ltY := Nat.lt_of_lt_of_le ltY fs
  replace ltR := Nat.lt_of_lt_of_le ltR fs
  clear g0
  clear g1
  clear g2
  clear g3
  clear g5
  clear hbw0
  simp only [setM_some, setM_none, setM_nil]
  clear fk fs
  have gR := g4
  obtain ⟨cs, hcs, oR⟩ := rR
  obtain ⟨px, pa, pn, pc, qx, qa, qn, qc, hv, hq⟩ := gR
  rw [hv] at hcs
  injection hcs with hcs
  subst hcs
  obtain ⟨r0, r1, r2, r3⟩ := oR.four
  have e5 : U1 5 = _ := g7
  try simp only []
  try go_at_K
  repeat (first | go_values | go_skip | go_guarded | go_step | go_upon)
  refine bodyPost_ret (v := (.tuple #[.agg #[.bool px, .slice pa pn pc, .bool qx, .slice qa qn qc], .int .i64 (addC x1 (-y1))])) (by simp [results, Tryz.results7, go_sem, r0, r1, r2, r3, e5]) rfl ?_
  exact ⟨_, _, _, _, _, _, _, _, rfl, hq, hbw⟩

def quoC (x y : Rat) : Int := if y = 0 then 12 else mulC x y⁻¹
def quoZ (x y : Rat) : Rat := if y = 0 then 0 else mulZ x y⁻¹
theorem num_zero {q : Rat} : q.num = 0 ↔ q = 0 := Rat.num_eq_zero

set_option maxRecDepth 20000 in
set_option maxHeartbeats 8000000 in
theorem quo_any (vX vY : Value) (x1 y1 : Rat) (w : World) (hX : QV w vX x1) (hY : QV w vY y1) :
    Calls Tryz.prog 9 #[vX, vY] w fun e w' => ∃ s1 s2 s3 s4 s5 s6 s7 s8, e = .returned (.tuple #[.agg #[.bool s1, .slice s2 s3 s4, .bool s5, .slice s6 s7 s8], .int .i64 (quoC x1 y1)]) ∧ QP w' s1 s2 s3 s4 s5 s6 s7 s8 (quoZ x1 y1) ∧ Below w.heap.size w w' := by
  obtain ⟨xX, aX, nX, cX, yX, eX, mX, fX, rfl, hX⟩ := hX
  obtain ⟨xY, aY, nY, cY, yY, eY, mY, fY, rfl, hY⟩ := hY
  have oX := (((Blk.new w 27 #[.bool xX, .slice aX nX cX, .bool yX, .slice eX mX fX]).alloc (.cells #[.bool xY, .slice aY nY cY, .bool yY, .slice eY mY fY] 27 (0, 0))).alloc (.cells #[.bool false, .slice none 0 0, .bool false, .slice none 0 0] 27 (0, 0)))
  have oY := ((Blk.new (w.alloc (.cells #[.bool xX, .slice aX nX cX, .bool yX, .slice eX mX fX] 27 (0, 0))) 27 #[.bool xY, .slice aY nY cY, .bool yY, .slice eY mY fY]).alloc (.cells #[.bool false, .slice none 0 0, .bool false, .slice none 0 0] 27 (0, 0)))
  have oR := (Blk.new ((w.alloc (.cells #[.bool xX, .slice aX nX cX, .bool yX, .slice eX mX fX] 27 (0, 0))).alloc (.cells #[.bool xY, .slice aY nY cY, .bool yY, .slice eY mY fY] 27 (0, 0))) 27 #[.bool false, .slice none 0 0, .bool false, .slice none 0 0])
  simp only [World.size_alloc] at oY oR
  have hbw : Below w.heap.size w (((w.alloc (.cells #[.bool xX, .slice aX nX cX, .bool yX, .slice eX mX fX] 27 (0, 0))).alloc (.cells #[.bool xY, .slice aY nY cY, .bool yY, .slice eY mY fY] 27 (0, 0))).alloc (.cells #[.bool false, .slice none 0 0, .bool false, .slice none 0 0] 27 (0, 0))) := by go_grown
  replace hX := hX.below hbw
  replace hY := hY.below hbw
  have ltX := oX.lt
  have ltY := oY.lt
  have ltR := oR.lt
  go_enter Tryz.func9, Tryz.ntmps9
  by_cases g0 : y1 = 0
  · have HC : Hid (quoC x1 y1 = 12 ∧ quoZ x1 y1 = 0) := ⟨if_pos g0, if_pos g0⟩
    have E0 : qc0 y1.num = 12 := if_pos (num_zero.2 g0)
    clear g0
    obtain ⟨Yc0, Yc1, Yc2, Yc3⟩ := oY.four
    obtain ⟨Yq0, Yq1, Yq2, Yq3⟩ := oY.frozen4
    go_wp2_with fail
    refine (inv_any _ y1 _ hY.val).mono ?_
    rintro e w1 ⟨j1, j2, j3, j4, j5, j6, j7, j8, rfl, hV, hb⟩
    clear Yc0 Yc1 Yc2 Yc3 Yq0 Yq1 Yq2 Yq3
    replace oX := oX.stay hb
    replace ltX := oX.lt
    replace oY := oY.stay hb
    replace ltY := oY.lt
    replace oR := oR.stay hb
    replace ltR := oR.lt
    replace hX := hX.below hb
    replace hY := hY.below hb
    replace hbw := hbw.step hb (Nat.le_refl _)
    clear hb
    have hn := below_new w1 (.cells #[.bool j1, .slice j2 j3 j4, .bool j5, .slice j6 j7 j8] 27 (0, 0))
    have oV := Blk.new w1 27 #[.bool j1, .slice j2 j3 j4, .bool j5, .slice j6 j7 j8]
    have neXV : w.heap.size ≠ w1.heap.size := Nat.ne_of_lt ltX
    have neYV : w.heap.size + 1 ≠ w1.heap.size := Nat.ne_of_lt ltY
    have neRV : w.heap.size + 1 + 1 ≠ w1.heap.size := Nat.ne_of_lt ltR
    have lwV : w.heap.size ≤ w1.heap.size := hbw.size
    replace oX := oX.stay hn
    replace ltX := oX.lt
    replace oY := oY.stay hn
    replace ltY := oY.lt
    replace oR := oR.stay hn
    replace ltR := oR.lt
    replace hX := hX.below hn
    replace hY := hY.below hn
    replace hbw := hbw.step hn (Nat.le_refl _)
    clear hn
    have ltV := oV.lt
    obtain ⟨Rc0, Rc1, Rc2, Rc3⟩ := oR.four
    obtain ⟨Rq0, Rq1, Rq2, Rq3⟩ := oR.frozen4
    try simp only []
    try go_at_K
    repeat (first | go_values | go_skip | go_guarded | go_step | go_upon)
    refine bodyPost_ret (v := (.tuple #[.agg #[.bool false, .slice none 0 0, .bool false, .slice none 0 0], .int .i64 12])) (by simp [results, Tryz.results9, go_sem, Rc0, Rc1, Rc2, Rc3, E0]) rfl ?_
    refine ⟨_, _, _, _, _, _, _, _, by rw [HC.out.1], ?_, ?_⟩
    · rw [HC.out.2]; exact QP.zero
    · first | exact hbw | exact below_store4 hbw (by omega) _ _ _ _
  · have HC : Hid (quoC x1 y1 = mulC x1 y1⁻¹ ∧ quoZ x1 y1 = mulZ x1 y1⁻¹) := ⟨if_neg g0, if_neg g0⟩
    have E0 : qc0 y1.num = 0 := if_neg (fun h => g0 (num_zero.1 h))
    clear g0
    obtain ⟨Yc0, Yc1, Yc2, Yc3⟩ := oY.four
    obtain ⟨Yq0, Yq1, Yq2, Yq3⟩ := oY.frozen4
    go_wp2_with fail
    refine (inv_any _ y1 _ hY.val).mono ?_
    rintro e w1 ⟨j1, j2, j3, j4, j5, j6, j7, j8, rfl, hV, hb⟩
    clear Yc0 Yc1 Yc2 Yc3 Yq0 Yq1 Yq2 Yq3
    replace oX := oX.stay hb
    replace ltX := oX.lt
    replace oY := oY.stay hb
    replace ltY := oY.lt
    replace oR := oR.stay hb
    replace ltR := oR.lt
    replace hX := hX.below hb
    replace hY := hY.below hb
    replace hbw := hbw.step hb (Nat.le_refl _)
    clear hb
    have hn := below_new w1 (.cells #[.bool j1, .slice j2 j3 j4, .bool j5, .slice j6 j7 j8] 27 (0, 0))
    have oV := Blk.new w1 27 #[.bool j1, .slice j2 j3 j4, .bool j5, .slice j6 j7 j8]
    have neXV : w.heap.size ≠ w1.heap.size := Nat.ne_of_lt ltX
    have neYV : w.heap.size + 1 ≠ w1.heap.size := Nat.ne_of_lt ltY
    have neRV : w.heap.size + 1 + 1 ≠ w1.heap.size := Nat.ne_of_lt ltR
    have lwV : w.heap.size ≤ w1.heap.size := hbw.size
    replace oX := oX.stay hn
    replace ltX := oX.lt
    replace oY := oY.stay hn
    replace ltY := oY.lt
    replace oR := oR.stay hn
    replace ltR := oR.lt
    replace hX := hX.below hn
    replace hY := hY.below hn
    replace hV := hV.below hn
    replace hbw := hbw.step hn (Nat.le_refl _)
    clear hn
    have ltV := oV.lt
    obtain ⟨Xc0, Xc1, Xc2, Xc3⟩ := oX.four
    obtain ⟨Xq0, Xq1, Xq2, Xq3⟩ := oX.frozen4
    obtain ⟨Vc0, Vc1, Vc2, Vc3⟩ := oV.four
    obtain ⟨Vq0, Vq1, Vq2, Vq3⟩ := oV.frozen4
    go_wp2_with fail
    refine (qmul_any _ _ x1 y1⁻¹ _ hX.val hV.val).mono ?_
    rintro e w2 ⟨k1, k2, k3, k4, k5, k6, k7, k8, rfl, hQ, hb⟩
    clear Xc0 Xc1 Xc2 Xc3 Xq0 Xq1 Xq2 Xq3
    clear Vc0 Vc1 Vc2 Vc3 Vq0 Vq1 Vq2 Vq3
    replace oX := oX.stay hb
    replace ltX := oX.lt
    replace oY := oY.stay hb
    replace ltY := oY.lt
    replace oR := oR.stay hb
    replace ltR := oR.lt
    replace oV := oV.stay hb
    replace ltV := oV.lt
    replace hX := hX.below hb
    replace hY := hY.below hb
    replace hV := hV.below hb
    replace hbw := hbw.step hb (Nat.le_refl _)
    clear hb
    obtain ⟨Rc0, Rc1, Rc2, Rc3⟩ := oR.four
    obtain ⟨Rq0, Rq1, Rq2, Rq3⟩ := oR.frozen4
    try simp only []
    try go_at_K
    repeat (first | go_values | go_skip | go_guarded | go_step | go_upon)
    refine bodyPost_ret (v := (.tuple #[.agg #[.bool k1, .slice k2 k3 k4, .bool k5, .slice k6 k7 k8], .int .i64 (mulC x1 y1⁻¹)])) (by simp [results, Tryz.results9, go_sem, Rc0, Rc1, Rc2, Rc3]) rfl ?_
    refine ⟨_, _, _, _, _, _, _, _, by rw [HC.out.1], ?_, below_store4 hbw (by omega) _ _ _ _⟩
    rw [HC.out.2]
    exact hQ.keepI (keepI_four (noI_slice _ _ _) (noI_slice _ _ _) oR _ _ _ _ _ _ _ _)

end Go.Proofs.YtidpbdhhbeaijaaGreat
