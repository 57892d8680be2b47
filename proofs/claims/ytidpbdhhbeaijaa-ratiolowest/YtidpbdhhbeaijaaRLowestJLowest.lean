/- The walk of suretylaw02.RatioLowest: it answers true at every input. -/
import Derived.Test.YtidpbdhhbeaijaaL0JLowest
import Derived.Test.YtidpbdhhbeaijaaSame2JLowest
namespace Go.Proofs.Ytidpbdhhbeaijaa
open Go.RowKit

set_option maxRecDepth 20000 in
set_option maxHeartbeats 16000000 in
theorem ratioLowest_any (s t : ByteArray) (w : World) (hs : s.size ≤ maxLen) (ht : t.size ≤ maxLen) :
    Calls Try.prog 4 #[.string s, .string t] w fun e w' => e = .returned (.bool true) ∧ Below w.heap.size w w' := by
  have hbw := Below.refl w.heap.size w
  go_enter Try.func4, Try.ntmps4
  go_wp2_with fail
  refine (awake2_any _).mono ?_
  rintro e w1 ⟨rfl, hb⟩
  replace hbw := hbw.step hb (Nat.le_refl _)
  clear hb
  unfold maxLen at hs ht
  obtain ⟨k1, hk1, hm1, hl1⟩ : ∃ k : Nat, k ≤ s.size ∧ (if (400 : Int) < (s.size : Int) then (400 : Int) else (s.size : Int)) = (k : Int) ∧ k ≤ 400 := ⟨min s.size 400, by omega, by split <;> omega, by omega⟩
  obtain ⟨k2, hk2, hm2, hl2⟩ : ∃ k : Nat, k ≤ t.size ∧ (if (400 : Int) < (t.size : Int) then (400 : Int) else (t.size : Int)) = (k : Int) ∧ k ≤ 400 := ⟨min t.size 400, by omega, by split <;> omega, by omega⟩
  go_wp2
  go_region
  obtain ⟨s1, HS1⟩ : ∃ z, Hid (s.extract 0 k1 = z) := ⟨_, rfl⟩
  obtain ⟨t1, HT1⟩ : ∃ z, Hid (t.extract 0 k2 = z) := ⟨_, rfl⟩
  have HL1 : Hid (s1.size ≤ 10000) := by show _ ≤ _; rw [← HS1.out, ← bs_length, bs_extract, List.drop_zero, List.length_take]; omega
  have HL2 : Hid (t1.size ≤ 10000) := by show _ ≤ _; rw [← HT1.out, ← bs_length, bs_extract, List.drop_zero, List.length_take]; omega
  replace hbw := hbw.drew
  rw [HS1.out, HT1.out]
  clear hk1 hm1 hl1 hk2 hm2 hl2 hs ht
  go_wp2_with fail
  refine (parse_z s1 _ HL1.out).mono ?_
  rintro e w2 ⟨xA, aA, nA, cA, c1, z1, rfl, hA, HP1, hb⟩
  replace hbw := hbw.step hb (Nat.le_refl _)
  clear hb
  have hn := below_new w2 (.cells #[.bool xA, .slice aA nA cA] 25 (0, 0))
  have oA := Blk.new w2 25 #[.bool xA, .slice aA nA cA]
  have lwA : w.heap.size ≤ w2.heap.size := hbw.size
  replace hA := hA.below hn
  replace hbw := hbw.step hn (Nat.le_refl _)
  clear hn
  have ltA := oA.lt
  go_wp2_with fail
  refine (parse_z t1 _ HL2.out).mono ?_
  rintro e w3 ⟨xC, aC, nC, cC, c2, z2, rfl, hC, HP2, hb⟩
  replace oA := oA.stay hb
  replace ltA := oA.lt
  replace hA := hA.below hb
  replace hbw := hbw.step hb (Nat.le_refl _)
  clear hb
  have hn := below_new w3 (.cells #[.bool xC, .slice aC nC cC] 25 (0, 0))
  have oC := Blk.new w3 25 #[.bool xC, .slice aC nC cC]
  have neAC : w2.heap.size ≠ w3.heap.size := Nat.ne_of_lt ltA
  have lwC : w.heap.size ≤ w3.heap.size := hbw.size
  replace oA := oA.stay hn
  replace ltA := oA.lt
  replace hA := hA.below hn
  replace hC := hC.below hn
  replace hbw := hbw.step hn (Nat.le_refl _)
  clear hn
  have ltC := oC.lt
  go_wp2_with fail
  refine (rparse_z s1 _ HL1.out).mono ?_
  rintro e w4 ⟨xP, aP, nP, cP, c3, z3, rfl, hP, HP3, hb⟩
  replace oA := oA.stay hb
  replace ltA := oA.lt
  replace oC := oC.stay hb
  replace ltC := oC.lt
  replace hA := hA.below hb
  replace hC := hC.below hb
  replace hbw := hbw.step hb (Nat.le_refl _)
  clear hb
  obtain ⟨rfl, rfl⟩ := HP1.out.same HP3.out
  have hn := below_new w4 (.cells #[.bool xP, .slice aP nP cP] 33 (0, 0))
  have oP := Blk.new w4 33 #[.bool xP, .slice aP nP cP]
  have neAP : w2.heap.size ≠ w4.heap.size := Nat.ne_of_lt ltA
  have neCP : w3.heap.size ≠ w4.heap.size := Nat.ne_of_lt ltC
  have lwP : w.heap.size ≤ w4.heap.size := hbw.size
  replace oA := oA.stay hn
  replace ltA := oA.lt
  replace oC := oC.stay hn
  replace ltC := oC.lt
  replace hA := hA.below hn
  replace hC := hC.below hn
  replace hP := hP.below hn
  replace hbw := hbw.step hn (Nat.le_refl _)
  clear hn
  have ltP := oP.lt
  go_wp2_with fail
  refine (rparse_z t1 _ HL2.out).mono ?_
  rintro e w5 ⟨xQ, aQ, nQ, cQ, c4, z4, rfl, hQ, HP4, hb⟩
  replace oA := oA.stay hb
  replace ltA := oA.lt
  replace oC := oC.stay hb
  replace ltC := oC.lt
  replace oP := oP.stay hb
  replace ltP := oP.lt
  replace hA := hA.below hb
  replace hC := hC.below hb
  replace hP := hP.below hb
  replace hbw := hbw.step hb (Nat.le_refl _)
  clear hb
  obtain ⟨rfl, rfl⟩ := HP2.out.same HP4.out
  have hn := below_new w5 (.cells #[.bool xQ, .slice aQ nQ cQ] 33 (0, 0))
  have oQ := Blk.new w5 33 #[.bool xQ, .slice aQ nQ cQ]
  have neAQ : w2.heap.size ≠ w5.heap.size := Nat.ne_of_lt ltA
  have neCQ : w3.heap.size ≠ w5.heap.size := Nat.ne_of_lt ltC
  have nePQ : w4.heap.size ≠ w5.heap.size := Nat.ne_of_lt ltP
  have lwQ : w.heap.size ≤ w5.heap.size := hbw.size
  replace oA := oA.stay hn
  replace ltA := oA.lt
  replace oC := oC.stay hn
  replace ltC := oC.lt
  replace oP := oP.stay hn
  replace ltP := oP.lt
  replace hA := hA.below hn
  replace hC := hC.below hn
  replace hP := hP.below hn
  replace hQ := hQ.below hn
  replace hbw := hbw.step hn (Nat.le_refl _)
  clear hn
  have ltQ := oQ.lt
  obtain ⟨Ac0, Ac1, Aq0, Aq1⟩ := oA.two
  obtain ⟨Cc0, Cc1, Cq0, Cq1⟩ := oC.two
  go_wp2_with fail
  refine (of_any _ _ z1 z2 _ hA hC).mono ?_
  rintro e w6 ⟨xX, aX, nX, cX, yX, eX, mX, fX, rfl, hX, hb⟩
  clear Ac0 Ac1 Aq0 Aq1
  clear Cc0 Cc1 Cq0 Cq1
  replace oA := oA.stay hb
  replace ltA := oA.lt
  replace oC := oC.stay hb
  replace ltC := oC.lt
  replace oP := oP.stay hb
  replace ltP := oP.lt
  replace oQ := oQ.stay hb
  replace ltQ := oQ.lt
  replace hA := hA.below hb
  replace hC := hC.below hb
  replace hP := hP.below hb
  replace hQ := hQ.below hb
  replace hbw := hbw.step hb (Nat.le_refl _)
  clear hb
  have hn := below_new w6 (.cells #[.bool xX, .slice aX nX cX, .bool yX, .slice eX mX fX] 27 (0, 0))
  have oX := Blk.new w6 27 #[.bool xX, .slice aX nX cX, .bool yX, .slice eX mX fX]
  have neAX : w2.heap.size ≠ w6.heap.size := Nat.ne_of_lt ltA
  have neCX : w3.heap.size ≠ w6.heap.size := Nat.ne_of_lt ltC
  have nePX : w4.heap.size ≠ w6.heap.size := Nat.ne_of_lt ltP
  have neQX : w5.heap.size ≠ w6.heap.size := Nat.ne_of_lt ltQ
  have lwX : w.heap.size ≤ w6.heap.size := hbw.size
  replace oA := oA.stay hn
  replace ltA := oA.lt
  replace oC := oC.stay hn
  replace ltC := oC.lt
  replace oP := oP.stay hn
  replace ltP := oP.lt
  replace oQ := oQ.stay hn
  replace ltQ := oQ.lt
  replace hA := hA.below hn
  replace hC := hC.below hn
  replace hP := hP.below hn
  replace hQ := hQ.below hn
  replace hX := hX.below hn
  replace hbw := hbw.step hn (Nat.le_refl _)
  clear hn
  have ltX := oX.lt
  obtain ⟨Pc0, Pc1, Pq0, Pq1⟩ := oP.two
  obtain ⟨Qc0, Qc1, Qq0, Qq1⟩ := oQ.two
  go_wp2_with fail
  refine (rof_any _ _ z1 z2 400 _ hP hQ (by decide)).mono ?_
  rintro e w7 ⟨xY, aY, nY, cY, yY, eY, mY, fY, rfl, hY, hb⟩
  clear Pc0 Pc1 Pq0 Pq1
  clear Qc0 Qc1 Qq0 Qq1
  replace oA := oA.stay hb
  replace ltA := oA.lt
  replace oC := oC.stay hb
  replace ltC := oC.lt
  replace oP := oP.stay hb
  replace ltP := oP.lt
  replace oQ := oQ.stay hb
  replace ltQ := oQ.lt
  replace oX := oX.stay hb
  replace ltX := oX.lt
  replace hA := hA.below hb
  replace hC := hC.below hb
  replace hP := hP.below hb
  replace hQ := hQ.below hb
  replace hX := hX.below hb
  replace hbw := hbw.step hb (Nat.le_refl _)
  clear hb
  have hn := below_new w7 (.cells #[.bool xY, .slice aY nY cY, .bool yY, .slice eY mY fY] 35 (0, 0))
  have oY := Blk.new w7 35 #[.bool xY, .slice aY nY cY, .bool yY, .slice eY mY fY]
  have neAY : w2.heap.size ≠ w7.heap.size := Nat.ne_of_lt ltA
  have neCY : w3.heap.size ≠ w7.heap.size := Nat.ne_of_lt ltC
  have nePY : w4.heap.size ≠ w7.heap.size := Nat.ne_of_lt ltP
  have neQY : w5.heap.size ≠ w7.heap.size := Nat.ne_of_lt ltQ
  have neXY : w6.heap.size ≠ w7.heap.size := Nat.ne_of_lt ltX
  have lwY : w.heap.size ≤ w7.heap.size := hbw.size
  replace oA := oA.stay hn
  replace ltA := oA.lt
  replace oC := oC.stay hn
  replace ltC := oC.lt
  replace oP := oP.stay hn
  replace ltP := oP.lt
  replace oQ := oQ.stay hn
  replace ltQ := oQ.lt
  replace oX := oX.stay hn
  replace ltX := oX.lt
  replace hA := hA.below hn
  replace hC := hC.below hn
  replace hP := hP.below hn
  replace hQ := hQ.below hn
  replace hX := hX.below hn
  replace hY := hY.below hn
  replace hbw := hbw.step hn (Nat.le_refl _)
  clear hn
  have ltY := oY.lt
  obtain ⟨Xc0, Xc1, Xc2, Xc3⟩ := oX.four
  obtain ⟨Xq0, Xq1, Xq2, Xq3⟩ := oX.frozen4
  obtain ⟨Yc0, Yc1, Yc2, Yc3⟩ := oY.four
  obtain ⟨Yq0, Yq1, Yq2, Yq3⟩ := oY.frozen4
  go_wp2_with fail
  refine (same2_yes _ _ (qc0 z2) (Rat.divInt z1 z2) 830 _ hX.val hY.val (by decide)).mono ?_
  rintro e w8 ⟨rfl, hb⟩
  clear Xc0 Xc1 Xc2 Xc3 Xq0 Xq1 Xq2 Xq3
  clear Yc0 Yc1 Yc2 Yc3 Yq0 Yq1 Yq2 Yq3
  replace oA := oA.stay hb
  replace ltA := oA.lt
  replace oC := oC.stay hb
  replace ltC := oC.lt
  replace oP := oP.stay hb
  replace ltP := oP.lt
  replace oQ := oQ.stay hb
  replace ltQ := oQ.lt
  replace oX := oX.stay hb
  replace ltX := oX.lt
  replace oY := oY.stay hb
  replace ltY := oY.lt
  replace hA := hA.below hb
  replace hC := hC.below hb
  replace hP := hP.below hb
  replace hQ := hQ.below hb
  replace hX := hX.below hb
  replace hY := hY.below hb
  replace hbw := hbw.step hb (Nat.le_refl _)
  clear hb
  obtain ⟨q, HQ⟩ : ∃ q, Hid (Rat.divInt z1 z2 = q) := ⟨_, rfl⟩
  rw [HQ.out] at hX
  have HSg : Hid ((q.den : Int).sign = 1) := Int.sign_eq_one_of_pos (den_pos q)
  have HGc : Hid (((Int.gcd q.num q.den : Nat) : Int) = 1) := by show _ = _; rw [coprime]; rfl
  go_wp2
  refine wp_region_M (by kernel_rfl) [4, 67, 68, 69, 70, 71, 72, 73, 74, 75, 76, 77, 78, 79, 80, 81, 82, 83] [none, none, none, none, some 4, none, none, none, none, none, none, none, none, none, none, none, none, none, none, none, none, none, none, none, none, none, none, none, none, none, none, none, none, none, none, none, none, none, none, none, none, none, none, none, none, none, none, none, none, none, none, none, none, none, none, none, none, none, none, none, none, none, none, none, none, none, none, some 67, some 68, some 69, some 70, some 71, some 72, some 73, some 74, some 75, some 76, some 77, some 78, some 79, some 80, some 81, some 82, some 83] (fun U => by kernel_rfl) (fun L U wr => Below w.heap.size w wr ∧ KeepI w8 wr ∧ w8.heap.size ≤ wr.heap.size ∧ Blk 27 wr (w6.heap.size) #[.bool xX, .slice aX nX cX, .bool yX, .slice eX mX fX] ∧ (L 0 = true → IS (.agg #[.bool xX, .slice aX nX cX, .bool yX, .slice eX mX fX]) (U 67) wr) ∧ (L 1 = true → INT (q.den : Int) (U 68) wr) ∧ (L 2 = true → IS (.int .i64 1) (U 69) wr) ∧ (L 3 = true → IS (.bool true) (U 70) wr) ∧ (L 4 = true → IS (.bool true) (U 71) wr) ∧ (L 5 = true → IS (.agg #[.bool xX, .slice aX nX cX, .bool yX, .slice eX mX fX]) (U 72) wr) ∧ (L 6 = true → INT q.num (U 73) wr) ∧ (L 7 = true → IS (.agg #[.bool xX, .slice aX nX cX, .bool yX, .slice eX mX fX]) (U 74) wr) ∧ (L 8 = true → INT (q.den : Int) (U 75) wr) ∧ (L 9 = true → INT 1 (U 76) wr) ∧ (L 10 = true → TXT 1 (U 77) wr) ∧ (L 11 = true → IS (.bool true) (U 78) wr) ∧ (L 12 = true → IS (.bool true) (U 79) wr) ∧ (L 13 = true → IS (.bool true) (U 80) wr) ∧ (L 14 = true → IS undef (U 81) wr) ∧ (L 15 = true → IS undef (U 82) wr) ∧ (L 16 = true → IS (.bool true) (U 83) wr) ∧ (L 17 = true → IS (.bool true) (U 4) wr)) (by kernel_rfl) ?_ ?_ ?_
  · exact fun U => ⟨hbw.drew, KeepI.below (Below.refl _ _).drew, Nat.le_refl _, oX.drew, (fun h => by cases h), (fun h => by cases h), (fun h => by cases h), (fun h => by cases h), (fun h => by cases h), (fun h => by cases h), (fun h => by cases h), (fun h => by cases h), (fun h => by cases h), (fun h => by cases h), (fun h => by cases h), (fun h => by cases h), (fun h => by cases h), (fun h => by cases h), (fun h => by cases h), (fun h => by cases h), (fun h => by cases h), (fun h => by cases h)⟩
  · refine StepsU.run rfl ?_ ?_
    · intro L U wr hF hlk haf A K hA hK
      have HA : Hid (A = putAll _ _ U) := hA
      clear hA
      simp [Aft, Region.binds] at haf
      obtain ⟨fb, fk, fs, oX, f0, f1, f2, f3, f4, f5, f6, f7, f8, f9, f10, f11, f12, f13, f14, f15, f16, f17⟩ := hF
      have e13 : A.tmps[13]? = some (.pointer (some ⟨w6.heap.size, 0, none⟩)) := by rw [HA.out]; kernel_rfl
      obtain ⟨c0, c1, c2, c3⟩ := oX.four
      refine ⟨?_⟩
      go_simp
      refine hK (upd U 67 (.agg #[.bool xX, .slice aX nX cX, .bool yX, .slice eX mX fX])) _ _ ?_ ?_
      · rw [HA.out]; kernel_rfl
      · exact ⟨fb, fk, fs, oX, (fun _ => rfl), f1, f2, f3, f4, f5, f6, f7, f8, f9, f10, f11, f12, f13, f14, f15, f16, f17⟩
    refine StepsU.run rfl ?_ ?_
    · intro L U wr hF hlk haf A K hA hK
      have HA : Hid (A = putAll _ _ U) := hA
      clear hA
      simp [Aft, Region.binds] at haf
      obtain ⟨fb, fk, fs, oX, f0, f1, f2, f3, f4, f5, f6, f7, f8, f9, f10, f11, f12, f13, f14, f15, f16, f17⟩ := hF
      have g0 := f0 (by simp [haf])
      have e67 := rd HA.out 67 (by kernel_rfl) g0
      refine ⟨?_⟩
      go_simp
      refine (den_any _ q _ (hX.val.keepI fk)).mono ?_
      rintro e w1 ⟨u1, u2, u3, u4, rfl, hr, hb⟩
      go_simp
      refine hK (upd U 68 (.agg #[.bool u1, .slice u2 u3 u4])) _ _ ?_ ?_
      · rw [HA.out]; kernel_rfl
      · exact ⟨(fb.step hb (Nat.le_refl _)), (fk.trans (KeepI.below hb)), (Nat.le_trans fs hb.size), (oX.stay hb), (mv mo_is (KeepI.below hb) f0), (fun _ => hr), (mv mo_is (KeepI.below hb) f2), (mv mo_is (KeepI.below hb) f3), (mv mo_is (KeepI.below hb) f4), (mv mo_is (KeepI.below hb) f5), (mv mo_int (KeepI.below hb) f6), (mv mo_is (KeepI.below hb) f7), (mv mo_int (KeepI.below hb) f8), (mv mo_int (KeepI.below hb) f9), (mv mo_txt (KeepI.below hb) f10), (mv mo_is (KeepI.below hb) f11), (mv mo_is (KeepI.below hb) f12), (mv mo_is (KeepI.below hb) f13), (mv mo_is (KeepI.below hb) f14), (mv mo_is (KeepI.below hb) f15), (mv mo_is (KeepI.below hb) f16), (mv mo_is (KeepI.below hb) f17)⟩
    refine StepsU.run rfl ?_ ?_
    · intro L U wr hF hlk haf A K hA hK
      have HA : Hid (A = putAll _ _ U) := hA
      clear hA
      simp [Aft, Region.binds] at haf
      obtain ⟨fb, fk, fs, oX, f0, f1, f2, f3, f4, f5, f6, f7, f8, f9, f10, f11, f12, f13, f14, f15, f16, f17⟩ := hF
      have g1 := f1 (by simp [haf])
      have e68 := rd HA.out 68 (by kernel_rfl) rfl
      refine ⟨?_⟩
      go_simp
      refine (sgn_h _ (q.den : Int) 1 _ g1 HSg.out).mono ?_
      rintro e w1 ⟨rfl, hb⟩
      go_simp
      refine hK (upd U 69 (.int .i64 1)) _ _ ?_ ?_
      · rw [HA.out]; kernel_rfl
      · exact ⟨(fb.step hb (Nat.le_refl _)), (fk.trans (KeepI.below hb)), (Nat.le_trans fs hb.size), (oX.stay hb), (mv mo_is (KeepI.below hb) f0), (mv mo_int (KeepI.below hb) f1), (fun _ => rfl), (mv mo_is (KeepI.below hb) f3), (mv mo_is (KeepI.below hb) f4), (mv mo_is (KeepI.below hb) f5), (mv mo_int (KeepI.below hb) f6), (mv mo_is (KeepI.below hb) f7), (mv mo_int (KeepI.below hb) f8), (mv mo_int (KeepI.below hb) f9), (mv mo_txt (KeepI.below hb) f10), (mv mo_is (KeepI.below hb) f11), (mv mo_is (KeepI.below hb) f12), (mv mo_is (KeepI.below hb) f13), (mv mo_is (KeepI.below hb) f14), (mv mo_is (KeepI.below hb) f15), (mv mo_is (KeepI.below hb) f16), (mv mo_is (KeepI.below hb) f17)⟩
    refine StepsU.run rfl ?_ ?_
    · intro L U wr hF hlk haf A K hA hK
      have HA : Hid (A = putAll _ _ U) := hA
      clear hA
      simp [Aft, Region.binds] at haf
      obtain ⟨fb, fk, fs, oX, f0, f1, f2, f3, f4, f5, f6, f7, f8, f9, f10, f11, f12, f13, f14, f15, f16, f17⟩ := hF
      have g2 := f2 (by simp [haf])
      have e69 := rd HA.out 69 (by kernel_rfl) g2
      refine ⟨?_⟩
      go_simp
      refine hK (upd U 70 (.bool true)) _ _ ?_ ?_
      · rw [HA.out]; kernel_rfl
      · exact ⟨fb, fk, fs, oX, f0, f1, f2, (fun _ => rfl), f4, f5, f6, f7, f8, f9, f10, f11, f12, f13, f14, f15, f16, f17⟩
    refine StepsU.run rfl ?_ ?_
    · intro L U wr hF hlk haf A K hA hK
      have HA : Hid (A = putAll _ _ U) := hA
      clear hA
      simp [Aft, Region.binds] at haf
      obtain ⟨fb, fk, fs, oX, f0, f1, f2, f3, f4, f5, f6, f7, f8, f9, f10, f11, f12, f13, f14, f15, f16, f17⟩ := hF
      have g3 := f3 (by simp [haf])
      have e70 := rd HA.out 70 (by kernel_rfl) rfl
      refine ⟨?_⟩
      go_simp
      refine hK (upd U 71 (U 70)) _ _ ?_ ?_
      · rw [HA.out]; kernel_rfl
      · exact ⟨fb, fk, fs, oX, f0, f1, f2, f3, (fun _ => g3), f5, f6, f7, f8, f9, f10, f11, f12, f13, f14, f15, f16, f17⟩
    refine StepsU.cond ?_ ?_
    · intro L U wr hF hlk haf A K hA hK
      have HA : Hid (A = putAll _ _ U) := hA
      clear hA
      simp [Aft, Region.binds] at haf
      obtain ⟨fb, fk, fs, oX, f0, f1, f2, f3, f4, f5, f6, f7, f8, f9, f10, f11, f12, f13, f14, f15, f16, f17⟩ := hF
      have gg := f4 (by simp [haf])
      have ee := rd HA.out 71 (by kernel_rfl) gg
      refine ⟨?_⟩
      rw [if_pos (by simp [Region.wanted, yielded, ee])]
      refine Gate.out ?_
      clear gg ee
      have e13 : A.tmps[13]? = some (.pointer (some ⟨w6.heap.size, 0, none⟩)) := by rw [HA.out]; kernel_rfl
      obtain ⟨c0, c1, c2, c3⟩ := oX.four
      refine ⟨?_⟩
      go_simp
      refine hK (upd U 72 (.agg #[.bool xX, .slice aX nX cX, .bool yX, .slice eX mX fX])) _ _ ?_ ?_
      · rw [HA.out]; kernel_rfl
      · exact ⟨fb, fk, fs, oX, f0, f1, f2, f3, f4, (fun _ => rfl), f6, f7, f8, f9, f10, f11, f12, f13, f14, f15, f16, f17⟩
    refine StepsU.cond ?_ ?_
    · intro L U wr hF hlk haf A K hA hK
      have HA : Hid (A = putAll _ _ U) := hA
      clear hA
      simp [Aft, Region.binds] at haf
      obtain ⟨fb, fk, fs, oX, f0, f1, f2, f3, f4, f5, f6, f7, f8, f9, f10, f11, f12, f13, f14, f15, f16, f17⟩ := hF
      have gg := f4 (by simp [haf])
      have ee := rd HA.out 71 (by kernel_rfl) gg
      refine ⟨?_⟩
      rw [if_pos (by simp [Region.wanted, yielded, ee])]
      refine Gate.out ?_
      clear gg ee
      have g5 := f5 (by simp [haf])
      have e72 := rd HA.out 72 (by kernel_rfl) g5
      refine ⟨?_⟩
      go_simp
      refine (qnum_any _ q _ (hX.val.keepI fk)).mono ?_
      rintro e w1 ⟨u1, u2, u3, u4, rfl, hr, hb⟩
      go_simp
      refine hK (upd U 73 (.agg #[.bool u1, .slice u2 u3 u4])) _ _ ?_ ?_
      · rw [HA.out]; kernel_rfl
      · exact ⟨(fb.step hb (Nat.le_refl _)), (fk.trans (KeepI.below hb)), (Nat.le_trans fs hb.size), (oX.stay hb), (mv mo_is (KeepI.below hb) f0), (mv mo_int (KeepI.below hb) f1), (mv mo_is (KeepI.below hb) f2), (mv mo_is (KeepI.below hb) f3), (mv mo_is (KeepI.below hb) f4), (mv mo_is (KeepI.below hb) f5), (fun _ => hr), (mv mo_is (KeepI.below hb) f7), (mv mo_int (KeepI.below hb) f8), (mv mo_int (KeepI.below hb) f9), (mv mo_txt (KeepI.below hb) f10), (mv mo_is (KeepI.below hb) f11), (mv mo_is (KeepI.below hb) f12), (mv mo_is (KeepI.below hb) f13), (mv mo_is (KeepI.below hb) f14), (mv mo_is (KeepI.below hb) f15), (mv mo_is (KeepI.below hb) f16), (mv mo_is (KeepI.below hb) f17)⟩
    refine StepsU.cond ?_ ?_
    · intro L U wr hF hlk haf A K hA hK
      have HA : Hid (A = putAll _ _ U) := hA
      clear hA
      simp [Aft, Region.binds] at haf
      obtain ⟨fb, fk, fs, oX, f0, f1, f2, f3, f4, f5, f6, f7, f8, f9, f10, f11, f12, f13, f14, f15, f16, f17⟩ := hF
      have gg := f4 (by simp [haf])
      have ee := rd HA.out 71 (by kernel_rfl) gg
      refine ⟨?_⟩
      rw [if_pos (by simp [Region.wanted, yielded, ee])]
      refine Gate.out ?_
      clear gg ee
      have e13 : A.tmps[13]? = some (.pointer (some ⟨w6.heap.size, 0, none⟩)) := by rw [HA.out]; kernel_rfl
      obtain ⟨c0, c1, c2, c3⟩ := oX.four
      refine ⟨?_⟩
      go_simp
      refine hK (upd U 74 (.agg #[.bool xX, .slice aX nX cX, .bool yX, .slice eX mX fX])) _ _ ?_ ?_
      · rw [HA.out]; kernel_rfl
      · exact ⟨fb, fk, fs, oX, f0, f1, f2, f3, f4, f5, f6, (fun _ => rfl), f8, f9, f10, f11, f12, f13, f14, f15, f16, f17⟩
    refine StepsU.cond ?_ ?_
    · intro L U wr hF hlk haf A K hA hK
      have HA : Hid (A = putAll _ _ U) := hA
      clear hA
      simp [Aft, Region.binds] at haf
      obtain ⟨fb, fk, fs, oX, f0, f1, f2, f3, f4, f5, f6, f7, f8, f9, f10, f11, f12, f13, f14, f15, f16, f17⟩ := hF
      have gg := f4 (by simp [haf])
      have ee := rd HA.out 71 (by kernel_rfl) gg
      refine ⟨?_⟩
      rw [if_pos (by simp [Region.wanted, yielded, ee])]
      refine Gate.out ?_
      clear gg ee
      have g7 := f7 (by simp [haf])
      have e74 := rd HA.out 74 (by kernel_rfl) g7
      refine ⟨?_⟩
      go_simp
      refine (den_any _ q _ (hX.val.keepI fk)).mono ?_
      rintro e w1 ⟨u1, u2, u3, u4, rfl, hr, hb⟩
      go_simp
      refine hK (upd U 75 (.agg #[.bool u1, .slice u2 u3 u4])) _ _ ?_ ?_
      · rw [HA.out]; kernel_rfl
      · exact ⟨(fb.step hb (Nat.le_refl _)), (fk.trans (KeepI.below hb)), (Nat.le_trans fs hb.size), (oX.stay hb), (mv mo_is (KeepI.below hb) f0), (mv mo_int (KeepI.below hb) f1), (mv mo_is (KeepI.below hb) f2), (mv mo_is (KeepI.below hb) f3), (mv mo_is (KeepI.below hb) f4), (mv mo_is (KeepI.below hb) f5), (mv mo_int (KeepI.below hb) f6), (mv mo_is (KeepI.below hb) f7), (fun _ => hr), (mv mo_int (KeepI.below hb) f9), (mv mo_txt (KeepI.below hb) f10), (mv mo_is (KeepI.below hb) f11), (mv mo_is (KeepI.below hb) f12), (mv mo_is (KeepI.below hb) f13), (mv mo_is (KeepI.below hb) f14), (mv mo_is (KeepI.below hb) f15), (mv mo_is (KeepI.below hb) f16), (mv mo_is (KeepI.below hb) f17)⟩
    refine StepsU.cond ?_ ?_
    · intro L U wr hF hlk haf A K hA hK
      have HA : Hid (A = putAll _ _ U) := hA
      clear hA
      simp [Aft, Region.binds] at haf
      obtain ⟨fb, fk, fs, oX, f0, f1, f2, f3, f4, f5, f6, f7, f8, f9, f10, f11, f12, f13, f14, f15, f16, f17⟩ := hF
      have gg := f4 (by simp [haf])
      have ee := rd HA.out 71 (by kernel_rfl) gg
      refine ⟨?_⟩
      rw [if_pos (by simp [Region.wanted, yielded, ee])]
      refine Gate.out ?_
      clear gg ee
      have g6 := f6 (by simp [haf])
      have e73 := rd HA.out 73 (by kernel_rfl) rfl
      have g8 := f8 (by simp [haf])
      have e75 := rd HA.out 75 (by kernel_rfl) rfl
      refine ⟨?_⟩
      go_simp
      refine (gcd_h _ _ q.num (q.den : Int) 1 _ g6 g8 HGc.out).mono ?_
      rintro e w1 ⟨u1, u2, u3, u4, rfl, hr, hb⟩
      go_simp
      refine hK (upd U 76 (.agg #[.bool u1, .slice u2 u3 u4])) _ _ ?_ ?_
      · rw [HA.out]; kernel_rfl
      · exact ⟨(fb.step hb (Nat.le_refl _)), (fk.trans (KeepI.below hb)), (Nat.le_trans fs hb.size), (oX.stay hb), (mv mo_is (KeepI.below hb) f0), (mv mo_int (KeepI.below hb) f1), (mv mo_is (KeepI.below hb) f2), (mv mo_is (KeepI.below hb) f3), (mv mo_is (KeepI.below hb) f4), (mv mo_is (KeepI.below hb) f5), (mv mo_int (KeepI.below hb) f6), (mv mo_is (KeepI.below hb) f7), (mv mo_int (KeepI.below hb) f8), (fun _ => hr), (mv mo_txt (KeepI.below hb) f10), (mv mo_is (KeepI.below hb) f11), (mv mo_is (KeepI.below hb) f12), (mv mo_is (KeepI.below hb) f13), (mv mo_is (KeepI.below hb) f14), (mv mo_is (KeepI.below hb) f15), (mv mo_is (KeepI.below hb) f16), (mv mo_is (KeepI.below hb) f17)⟩
    refine StepsU.cond ?_ ?_
    · intro L U wr hF hlk haf A K hA hK
      have HA : Hid (A = putAll _ _ U) := hA
      clear hA
      simp [Aft, Region.binds] at haf
      obtain ⟨fb, fk, fs, oX, f0, f1, f2, f3, f4, f5, f6, f7, f8, f9, f10, f11, f12, f13, f14, f15, f16, f17⟩ := hF
      have gg := f4 (by simp [haf])
      have ee := rd HA.out 71 (by kernel_rfl) gg
      refine ⟨?_⟩
      rw [if_pos (by simp [Region.wanted, yielded, ee])]
      refine Gate.out ?_
      clear gg ee
      have g9 := f9 (by simp [haf])
      have e76 := rd HA.out 76 (by kernel_rfl) rfl
      refine ⟨?_⟩
      go_simp
      refine (text_a _ 1 _ g9).mono ?_
      rintro e w1 ⟨S, rfl, hS, hb⟩
      go_simp
      refine hK (upd U 77 (.string S)) _ _ ?_ ?_
      · rw [HA.out]; kernel_rfl
      · exact ⟨(fb.step hb (Nat.le_refl _)), (fk.trans (KeepI.below hb)), (Nat.le_trans fs hb.size), (oX.stay hb), (mv mo_is (KeepI.below hb) f0), (mv mo_int (KeepI.below hb) f1), (mv mo_is (KeepI.below hb) f2), (mv mo_is (KeepI.below hb) f3), (mv mo_is (KeepI.below hb) f4), (mv mo_is (KeepI.below hb) f5), (mv mo_int (KeepI.below hb) f6), (mv mo_is (KeepI.below hb) f7), (mv mo_int (KeepI.below hb) f8), (mv mo_int (KeepI.below hb) f9), (fun _ => ⟨S, rfl, hS⟩), (mv mo_is (KeepI.below hb) f11), (mv mo_is (KeepI.below hb) f12), (mv mo_is (KeepI.below hb) f13), (mv mo_is (KeepI.below hb) f14), (mv mo_is (KeepI.below hb) f15), (mv mo_is (KeepI.below hb) f16), (mv mo_is (KeepI.below hb) f17)⟩
    refine StepsU.cond ?_ ?_
    · intro L U wr hF hlk haf A K hA hK
      have HA : Hid (A = putAll _ _ U) := hA
      clear hA
      simp [Aft, Region.binds] at haf
      obtain ⟨fb, fk, fs, oX, f0, f1, f2, f3, f4, f5, f6, f7, f8, f9, f10, f11, f12, f13, f14, f15, f16, f17⟩ := hF
      have gg := f4 (by simp [haf])
      have ee := rd HA.out 71 (by kernel_rfl) gg
      refine ⟨?_⟩
      rw [if_pos (by simp [Region.wanted, yielded, ee])]
      refine Gate.out ?_
      clear gg ee
      have g10 := f10 (by simp [haf])
      obtain ⟨S, hS, hT⟩ := g10
      have tt := text_lit (l := [49]) hT tx_1
      have e77 := rd HA.out 77 (by kernel_rfl) hS
      refine ⟨?_⟩
      go_simp
      refine hK (upd U 78 (.bool true)) _ _ ?_ ?_
      · rw [HA.out]; kernel_rfl
      · exact ⟨fb, fk, fs, oX, f0, f1, f2, f3, f4, f5, f6, f7, f8, f9, f10, (fun _ => rfl), f12, f13, f14, f15, f16, f17⟩
    refine StepsU.run rfl ?_ ?_
    · intro L U wr hF hlk haf A K hA hK
      have HA : Hid (A = putAll _ _ U) := hA
      clear hA
      simp [Aft, Region.binds] at haf
      obtain ⟨fb, fk, fs, oX, f0, f1, f2, f3, f4, f5, f6, f7, f8, f9, f10, f11, f12, f13, f14, f15, f16, f17⟩ := hF
      have g4 := f4 (by simp [haf])
      have g11 := f11 (by simp [haf])
      have e71 := rd HA.out 71 (by kernel_rfl) g4
      have e78 := rd HA.out 78 (by kernel_rfl) g11
      refine ⟨?_⟩
      go_simp
      refine hK (upd U 79 (.bool true)) _ _ ?_ ?_
      · rw [HA.out]; kernel_rfl
      · exact ⟨fb, fk, fs, oX, f0, f1, f2, f3, f4, f5, f6, f7, f8, f9, f10, f11, (fun _ => rfl), f13, f14, f15, f16, f17⟩
    refine StepsU.run rfl ?_ ?_
    · intro L U wr hF hlk haf A K hA hK
      have HA : Hid (A = putAll _ _ U) := hA
      clear hA
      simp [Aft, Region.binds] at haf
      obtain ⟨fb, fk, fs, oX, f0, f1, f2, f3, f4, f5, f6, f7, f8, f9, f10, f11, f12, f13, f14, f15, f16, f17⟩ := hF
      have g12 := f12 (by simp [haf])
      have e79 := rd HA.out 79 (by kernel_rfl) rfl
      refine ⟨?_⟩
      go_simp
      refine hK (upd U 80 (U 79)) _ _ ?_ ?_
      · rw [HA.out]; kernel_rfl
      · exact ⟨fb, fk, fs, oX, f0, f1, f2, f3, f4, f5, f6, f7, f8, f9, f10, f11, f12, (fun _ => g12), f14, f15, f16, f17⟩
    refine StepsU.cond ?_ ?_
    · intro L U wr hF hlk haf A K hA hK
      have HA : Hid (A = putAll _ _ U) := hA
      clear hA
      simp [Aft, Region.binds] at haf
      obtain ⟨fb, fk, fs, oX, f0, f1, f2, f3, f4, f5, f6, f7, f8, f9, f10, f11, f12, f13, f14, f15, f16, f17⟩ := hF
      have gg := f13 (by simp [haf])
      have ee := rd HA.out 80 (by kernel_rfl) gg
      refine ⟨?_⟩
      rw [if_neg (by simp [Region.wanted, yielded, ee])]
      refine hK (upd U 81 undef) _ _ ?_ ?_
      · rw [HA.out]; kernel_rfl
      · exact ⟨fb, fk, fs, oX, f0, f1, f2, f3, f4, f5, f6, f7, f8, f9, f10, f11, f12, f13, (fun _ => rfl), f15, f16, f17⟩
    refine StepsU.cond ?_ ?_
    · intro L U wr hF hlk haf A K hA hK
      have HA : Hid (A = putAll _ _ U) := hA
      clear hA
      simp [Aft, Region.binds] at haf
      obtain ⟨fb, fk, fs, oX, f0, f1, f2, f3, f4, f5, f6, f7, f8, f9, f10, f11, f12, f13, f14, f15, f16, f17⟩ := hF
      have gg := f13 (by simp [haf])
      have ee := rd HA.out 80 (by kernel_rfl) gg
      refine ⟨?_⟩
      rw [if_neg (by simp [Region.wanted, yielded, ee])]
      refine hK (upd U 82 undef) _ _ ?_ ?_
      · rw [HA.out]; kernel_rfl
      · exact ⟨fb, fk, fs, oX, f0, f1, f2, f3, f4, f5, f6, f7, f8, f9, f10, f11, f12, f13, f14, (fun _ => rfl), f16, f17⟩
    refine StepsU.run rfl ?_ ?_
    · intro L U wr hF hlk haf A K hA hK
      have HA : Hid (A = putAll _ _ U) := hA
      clear hA
      simp [Aft, Region.binds] at haf
      obtain ⟨fb, fk, fs, oX, f0, f1, f2, f3, f4, f5, f6, f7, f8, f9, f10, f11, f12, f13, f14, f15, f16, f17⟩ := hF
      have g13 := f13 (by simp [haf])
      have g15 := f15 (by simp [haf])
      have e80 := rd HA.out 80 (by kernel_rfl) g13
      have e82 := rd HA.out 82 (by kernel_rfl) g15
      refine ⟨?_⟩
      go_simp
      refine hK (upd U 83 (.bool true)) _ _ ?_ ?_
      · rw [HA.out]; kernel_rfl
      · exact ⟨fb, fk, fs, oX, f0, f1, f2, f3, f4, f5, f6, f7, f8, f9, f10, f11, f12, f13, f14, f15, (fun _ => rfl), f17⟩
    refine StepsU.run rfl ?_ StepsU.nil
    · intro L U wr hF hlk haf A K hA hK
      have HA : Hid (A = putAll _ _ U) := hA
      clear hA
      simp [Aft, Region.binds] at haf
      obtain ⟨fb, fk, fs, oX, f0, f1, f2, f3, f4, f5, f6, f7, f8, f9, f10, f11, f12, f13, f14, f15, f16, f17⟩ := hF
      have g16 := f16 (by simp [haf])
      have e83 := rd HA.out 83 (by kernel_rfl) rfl
      refine ⟨?_⟩
      go_simp
      refine hK (upd U 4 (U 83)) _ _ ?_ ?_
      · rw [HA.out]; kernel_rfl
      · exact ⟨fb, fk, fs, oX, f0, f1, f2, f3, f4, f5, f6, f7, f8, f9, f10, f11, f12, f13, f14, f15, f16, (fun _ => g16)⟩
  intro L U9 V9 hall hF
  have hbw0 := hbw
  clear hbw
  obtain ⟨hbw, fk, fs, oX, f0, f1, f2, f3, f4, f5, f6, f7, f8, f9, f10, f11, f12, f13, f14, f15, f16, f17⟩ := hF
  have g0 := f0 (hall 0 (by decide))
  have g1 := f1 (hall 1 (by decide))
  have g2 := f2 (hall 2 (by decide))
  have g3 := f3 (hall 3 (by decide))
  have g4 := f4 (hall 4 (by decide))
  have g5 := f5 (hall 5 (by decide))
  have g6 := f6 (hall 6 (by decide))
  have g7 := f7 (hall 7 (by decide))
  have g8 := f8 (hall 8 (by decide))
  have g9 := f9 (hall 9 (by decide))
  have g10 := f10 (hall 10 (by decide))
  have g11 := f11 (hall 11 (by decide))
  have g12 := f12 (hall 12 (by decide))
  have g13 := f13 (hall 13 (by decide))
  have g14 := f14 (hall 14 (by decide))
  have g15 := f15 (hall 15 (by decide))
  have g16 := f16 (hall 16 (by decide))
  have g17 := f17 (hall 17 (by decide))
  clear hall f0 f1 f2 f3 f4 f5 f6 f7 f8 f9 f10 f11 f12 f13 f14 f15 f16 f17
  replace hA := hA.keepI fk
  replace hC := hC.keepI fk
  replace hP := hP.keepI fk
  replace hQ := hQ.keepI fk
  replace hX := hX.keepI fk
  replace hY := hY.keepI fk
  replace ltX := Nat.lt_of_lt_of_le ltX fs
  clear g0
  clear g1
  clear g2
  clear g3
  clear g4
  clear g5
  clear g6
  clear g7
  clear g8
  clear g9
  clear g10
  clear g11
  clear g12
  clear g13
  clear g14
  clear g15
  clear g16
  clear hbw0
  simp only [setM_some, setM_none, setM_nil]
  clear ltA oA
  clear ltC oC
  clear ltP oP
  clear ltQ oQ
  clear ltY oY
  clear fk fs
  have eT : U9 4 = _ := g17
  try simp only []
  try go_at_K
  repeat (first | go_values | go_skip | go_guarded | go_step | go_upon)
  refine bodyPost_ret (v := (.bool true)) (by simp [results, Try.results4, go_sem, eT]) rfl ?_
  exact ⟨rfl, hbw⟩
end Go.Proofs.Ytidpbdhhbeaijaa
