/- The statements' helper same; no statement of the seat is proved here. -/
import Derived.Test.YtidpbdhhbeaijaaR2JSums
import Derived.Test.YtidpbdhhbeaijaaTextRJSums
namespace Go.Proofs.Ytidpbdhhbeaijaa
open Go.RowKit
set_option maxRecDepth 20000 in
set_option maxHeartbeats 8000000 in
theorem same2_yes (vX vY : Value) (co : Int) (q : Rat) (N : Nat) (w : World) (hX : QV w vX q) (hY : QRV w vY q N) (hN : 20 ≤ N ∧ N ≤ 20000) :
    Calls Try.prog 11 #[vX, .int .i64 co, vY, .int .i64 co] w fun e w' => e = .returned (.bool true) ∧ Below w.heap.size w w' := by
  obtain ⟨xX, aX, nX, cX, yX, eX, mX, fX, rfl, hX⟩ := hX
  obtain ⟨xY, aY, nY, cY, yY, eY, mY, fY, rfl, hY⟩ := hY
  have HN : Hid (20 ≤ N ∧ N ≤ 20000) := hN
  clear hN
  have oX := ((Blk.new w 27 #[.bool xX, .slice aX nX cX, .bool yX, .slice eX mX fX]).alloc (.cells #[.bool xY, .slice aY nY cY, .bool yY, .slice eY mY fY] 35 (0, 0)))
  have oY := (Blk.new (w.alloc (.cells #[.bool xX, .slice aX nX cX, .bool yX, .slice eX mX fX] 27 (0, 0))) 35 #[.bool xY, .slice aY nY cY, .bool yY, .slice eY mY fY])
  simp only [World.size_alloc] at oY
  have hbw : Below w.heap.size w ((w.alloc (.cells #[.bool xX, .slice aX nX cX, .bool yX, .slice eX mX fX] 27 (0, 0))).alloc (.cells #[.bool xY, .slice aY nY cY, .bool yY, .slice eY mY fY] 35 (0, 0))) := by go_grown
  replace hX := hX.below hbw
  replace hY := hY.below hbw
  have ltX := oX.lt
  have ltY := oY.lt
  go_enter Try.func11, Try.ntmps11
  have HZ : Hid _ := hX.lt
  go_wp2
  generalize ((w.alloc (.cells #[.bool xX, .slice aX nX cX, .bool yX, .slice eX mX fX] 27 (0, 0))).alloc (.cells #[.bool xY, .slice aY nY cY, .bool yY, .slice eY mY fY] 35 (0, 0))) = W0 at hbw oX oY ltX ltY hX hY ⊢
  refine wp_region_M (by kernel_rfl) [8, 9, 10, 11, 12, 13, 14, 15, 16, 17, 18] [none, none, none, none, none, none, none, none, some 8, some 9, some 10, some 11, some 12, some 13, some 14, some 15, some 16, some 17, some 18] (fun U => by kernel_rfl) (fun L U wr => Below w.heap.size w wr ∧ KeepI W0 wr ∧ W0.heap.size ≤ wr.heap.size ∧ Blk 27 wr (w.heap.size) #[.bool xX, .slice aX nX cX, .bool yX, .slice eX mX fX] ∧ Blk 35 wr (w.heap.size + 1) #[.bool xY, .slice aY nY cY, .bool yY, .slice eY mY fY] ∧ (L 0 = true → IS (.int .i64 co) (U 9) wr) ∧ (L 1 = true → IS (.int .i64 co) (U 10) wr) ∧ (L 2 = true → IS (.bool true) (U 11) wr) ∧ (L 3 = true → IS (.bool true) (U 12) wr) ∧ (L 4 = true → IS (.agg #[.bool xX, .slice aX nX cX, .bool yX, .slice eX mX fX]) (U 13) wr) ∧ (L 5 = true → TXQ q (U 14) wr) ∧ (L 6 = true → IS (.agg #[.bool xY, .slice aY nY cY, .bool yY, .slice eY mY fY]) (U 15) wr) ∧ (L 7 = true → TXQ q (U 16) wr) ∧ (L 8 = true → IS (.bool true) (U 17) wr) ∧ (L 9 = true → IS (.bool true) (U 18) wr) ∧ (L 10 = true → IS (.bool true) (U 8) wr)) (by kernel_rfl) ?_ ?_ ?_
  · exact fun U => ⟨hbw.drew, KeepI.below (Below.refl _ _).drew, Nat.le_refl _, oX.drew, oY.drew, (fun h => by cases h), (fun h => by cases h), (fun h => by cases h), (fun h => by cases h), (fun h => by cases h), (fun h => by cases h), (fun h => by cases h), (fun h => by cases h), (fun h => by cases h), (fun h => by cases h), (fun h => by cases h)⟩
  · refine StepsU.run rfl ?_ ?_
    · intro L U wr hF hlk haf A K hA hK
      have HA : Hid (A = putAll _ _ U) := hA
      clear hA
      simp [Aft, Region.binds] at haf
      obtain ⟨fb, fk, fs, oX, oY, f0, f1, f2, f3, f4, f5, f6, f7, f8, f9, f10⟩ := hF
      have e1 : A.tmps[1]? = some (.int .i64 co) := by rw [HA.out]; kernel_rfl
      refine ⟨?_⟩
      go_simp
      refine hK (upd U 9 (.int .i64 co)) _ _ ?_ ?_
      · rw [HA.out]; kernel_rfl
      · exact ⟨fb, fk, fs, oX, oY, (fun _ => rfl), f1, f2, f3, f4, f5, f6, f7, f8, f9, f10⟩
    refine StepsU.run rfl ?_ ?_
    · intro L U wr hF hlk haf A K hA hK
      have HA : Hid (A = putAll _ _ U) := hA
      clear hA
      simp [Aft, Region.binds] at haf
      obtain ⟨fb, fk, fs, oX, oY, f0, f1, f2, f3, f4, f5, f6, f7, f8, f9, f10⟩ := hF
      have e3 : A.tmps[3]? = some (.int .i64 co) := by rw [HA.out]; kernel_rfl
      refine ⟨?_⟩
      go_simp
      refine hK (upd U 10 (.int .i64 co)) _ _ ?_ ?_
      · rw [HA.out]; kernel_rfl
      · exact ⟨fb, fk, fs, oX, oY, f0, (fun _ => rfl), f2, f3, f4, f5, f6, f7, f8, f9, f10⟩
    refine StepsU.run rfl ?_ ?_
    · intro L U wr hF hlk haf A K hA hK
      have HA : Hid (A = putAll _ _ U) := hA
      clear hA
      simp [Aft, Region.binds] at haf
      obtain ⟨fb, fk, fs, oX, oY, f0, f1, f2, f3, f4, f5, f6, f7, f8, f9, f10⟩ := hF
      have g0 := f0 (by simp [haf])
      have g1 := f1 (by simp [haf])
      have ee : ((co : Int) == co) = true := by simp
      have e9 := rd HA.out 9 (by kernel_rfl) g0
      have e10 := rd HA.out 10 (by kernel_rfl) g1
      refine ⟨?_⟩
      go_simp
      refine hK (upd U 11 (.bool true)) _ _ ?_ ?_
      · rw [HA.out]; kernel_rfl
      · exact ⟨fb, fk, fs, oX, oY, f0, f1, (fun _ => rfl), f3, f4, f5, f6, f7, f8, f9, f10⟩
    refine StepsU.run rfl ?_ ?_
    · intro L U wr hF hlk haf A K hA hK
      have HA : Hid (A = putAll _ _ U) := hA
      clear hA
      simp [Aft, Region.binds] at haf
      obtain ⟨fb, fk, fs, oX, oY, f0, f1, f2, f3, f4, f5, f6, f7, f8, f9, f10⟩ := hF
      have g2 := f2 (by simp [haf])
      have e11 := rd HA.out 11 (by kernel_rfl) rfl
      refine ⟨?_⟩
      go_simp
      refine hK (upd U 12 (U 11)) _ _ ?_ ?_
      · rw [HA.out]; kernel_rfl
      · exact ⟨fb, fk, fs, oX, oY, f0, f1, f2, (fun _ => g2), f4, f5, f6, f7, f8, f9, f10⟩
    refine StepsU.cond ?_ ?_
    · intro L U wr hF hlk haf A K hA hK
      have HA : Hid (A = putAll _ _ U) := hA
      clear hA
      simp [Aft, Region.binds] at haf
      obtain ⟨fb, fk, fs, oX, oY, f0, f1, f2, f3, f4, f5, f6, f7, f8, f9, f10⟩ := hF
      have gg := f3 (by simp [haf])
      have ee := rd HA.out 12 (by kernel_rfl) gg
      refine ⟨?_⟩
      rw [if_pos (by simp [Region.wanted, yielded, ee])]
      refine Gate.out ?_
      clear gg ee
      have e4 : A.tmps[4]? = some (.pointer (some ⟨w.heap.size, 0, none⟩)) := by rw [HA.out]; kernel_rfl
      obtain ⟨c0, c1, c2, c3⟩ := oX.four
      refine ⟨?_⟩
      go_simp
      refine hK (upd U 13 (.agg #[.bool xX, .slice aX nX cX, .bool yX, .slice eX mX fX])) _ _ ?_ ?_
      · rw [HA.out]; kernel_rfl
      · exact ⟨fb, fk, fs, oX, oY, f0, f1, f2, f3, (fun _ => rfl), f5, f6, f7, f8, f9, f10⟩
    refine StepsU.cond ?_ ?_
    · intro L U wr hF hlk haf A K hA hK
      have HA : Hid (A = putAll _ _ U) := hA
      clear hA
      simp [Aft, Region.binds] at haf
      obtain ⟨fb, fk, fs, oX, oY, f0, f1, f2, f3, f4, f5, f6, f7, f8, f9, f10⟩ := hF
      have gg := f3 (by simp [haf])
      have ee := rd HA.out 12 (by kernel_rfl) gg
      refine ⟨?_⟩
      rw [if_pos (by simp [Region.wanted, yielded, ee])]
      refine Gate.out ?_
      clear gg ee
      have g4 := f4 (by simp [haf])
      have e13 := rd HA.out 13 (by kernel_rfl) g4
      refine ⟨?_⟩
      go_simp
      refine (qtext_any _ q _ (hX.val.keepI fk)).mono ?_
      rintro e w1 ⟨S, rfl, hS, hb⟩
      go_simp
      refine hK (upd U 14 (.string S)) _ _ ?_ ?_
      · rw [HA.out]; kernel_rfl
      · exact ⟨(fb.step hb (Nat.le_refl _)), (fk.trans (KeepI.below hb)), (Nat.le_trans fs hb.size), (oX.stay hb), (oY.stay hb), (mv mo_is (KeepI.below hb) f0), (mv mo_is (KeepI.below hb) f1), (mv mo_is (KeepI.below hb) f2), (mv mo_is (KeepI.below hb) f3), (mv mo_is (KeepI.below hb) f4), (fun _ => ⟨S, rfl, hS⟩), (mv mo_is (KeepI.below hb) f6), (mv mo_txq (KeepI.below hb) f7), (mv mo_is (KeepI.below hb) f8), (mv mo_is (KeepI.below hb) f9), (mv mo_is (KeepI.below hb) f10)⟩
    refine StepsU.cond ?_ ?_
    · intro L U wr hF hlk haf A K hA hK
      have HA : Hid (A = putAll _ _ U) := hA
      clear hA
      simp [Aft, Region.binds] at haf
      obtain ⟨fb, fk, fs, oX, oY, f0, f1, f2, f3, f4, f5, f6, f7, f8, f9, f10⟩ := hF
      have gg := f3 (by simp [haf])
      have ee := rd HA.out 12 (by kernel_rfl) gg
      refine ⟨?_⟩
      rw [if_pos (by simp [Region.wanted, yielded, ee])]
      refine Gate.out ?_
      clear gg ee
      have e6 : A.tmps[6]? = some (.pointer (some ⟨w.heap.size + 1, 0, none⟩)) := by rw [HA.out]; kernel_rfl
      obtain ⟨c0, c1, c2, c3⟩ := oY.four
      refine ⟨?_⟩
      go_simp
      refine hK (upd U 15 (.agg #[.bool xY, .slice aY nY cY, .bool yY, .slice eY mY fY])) _ _ ?_ ?_
      · rw [HA.out]; kernel_rfl
      · exact ⟨fb, fk, fs, oX, oY, f0, f1, f2, f3, f4, f5, (fun _ => rfl), f7, f8, f9, f10⟩
    refine StepsU.cond ?_ ?_
    · intro L U wr hF hlk haf A K hA hK
      have HA : Hid (A = putAll _ _ U) := hA
      clear hA
      simp [Aft, Region.binds] at haf
      obtain ⟨fb, fk, fs, oX, oY, f0, f1, f2, f3, f4, f5, f6, f7, f8, f9, f10⟩ := hF
      have gg := f3 (by simp [haf])
      have ee := rd HA.out 12 (by kernel_rfl) gg
      refine ⟨?_⟩
      rw [if_pos (by simp [Region.wanted, yielded, ee])]
      refine Gate.out ?_
      clear gg ee
      have g6 := f6 (by simp [haf])
      have e15 := rd HA.out 15 (by kernel_rfl) g6
      refine ⟨?_⟩
      go_simp
      refine (rshow_any _ q N _ (hY.val.keepI fk) HN.out HZ.out).mono ?_
      rintro e w1 ⟨S, rfl, hS, hb⟩
      go_simp
      refine hK (upd U 16 (.string S)) _ _ ?_ ?_
      · rw [HA.out]; kernel_rfl
      · exact ⟨(fb.step hb (Nat.le_refl _)), (fk.trans (KeepI.below hb)), (Nat.le_trans fs hb.size), (oX.stay hb), (oY.stay hb), (mv mo_is (KeepI.below hb) f0), (mv mo_is (KeepI.below hb) f1), (mv mo_is (KeepI.below hb) f2), (mv mo_is (KeepI.below hb) f3), (mv mo_is (KeepI.below hb) f4), (mv mo_txq (KeepI.below hb) f5), (mv mo_is (KeepI.below hb) f6), (fun _ => ⟨S, rfl, hS⟩), (mv mo_is (KeepI.below hb) f8), (mv mo_is (KeepI.below hb) f9), (mv mo_is (KeepI.below hb) f10)⟩
    refine StepsU.cond ?_ ?_
    · intro L U wr hF hlk haf A K hA hK
      have HA : Hid (A = putAll _ _ U) := hA
      clear hA
      simp [Aft, Region.binds] at haf
      obtain ⟨fb, fk, fs, oX, oY, f0, f1, f2, f3, f4, f5, f6, f7, f8, f9, f10⟩ := hF
      have gg := f3 (by simp [haf])
      have ee := rd HA.out 12 (by kernel_rfl) gg
      refine ⟨?_⟩
      rw [if_pos (by simp [Region.wanted, yielded, ee])]
      refine Gate.out ?_
      clear gg ee
      have g5 := f5 (by simp [haf])
      have g7 := f7 (by simp [haf])
      obtain ⟨S, hS, hT⟩ := g5
      obtain ⟨S2, hS2, hT2⟩ := g7
      have tt : (S.toList == S2.toList) = true := by rw [hT.same hT2]; simp
      have e14 := rd HA.out 14 (by kernel_rfl) hS
      have e16 := rd HA.out 16 (by kernel_rfl) hS2
      refine ⟨?_⟩
      go_simp
      refine hK (upd U 17 (.bool true)) _ _ ?_ ?_
      · rw [HA.out]; kernel_rfl
      · exact ⟨fb, fk, fs, oX, oY, f0, f1, f2, f3, f4, f5, f6, f7, (fun _ => rfl), f9, f10⟩
    refine StepsU.run rfl ?_ ?_
    · intro L U wr hF hlk haf A K hA hK
      have HA : Hid (A = putAll _ _ U) := hA
      clear hA
      simp [Aft, Region.binds] at haf
      obtain ⟨fb, fk, fs, oX, oY, f0, f1, f2, f3, f4, f5, f6, f7, f8, f9, f10⟩ := hF
      have g3 := f3 (by simp [haf])
      have g8 := f8 (by simp [haf])
      have e12 := rd HA.out 12 (by kernel_rfl) g3
      have e17 := rd HA.out 17 (by kernel_rfl) g8
      refine ⟨?_⟩
      go_simp
      refine hK (upd U 18 (.bool true)) _ _ ?_ ?_
      · rw [HA.out]; kernel_rfl
      · exact ⟨fb, fk, fs, oX, oY, f0, f1, f2, f3, f4, f5, f6, f7, f8, (fun _ => rfl), f10⟩
    refine StepsU.run rfl ?_ StepsU.nil
    · intro L U wr hF hlk haf A K hA hK
      have HA : Hid (A = putAll _ _ U) := hA
      clear hA
      simp [Aft, Region.binds] at haf
      obtain ⟨fb, fk, fs, oX, oY, f0, f1, f2, f3, f4, f5, f6, f7, f8, f9, f10⟩ := hF
      have g9 := f9 (by simp [haf])
      have e18 := rd HA.out 18 (by kernel_rfl) rfl
      refine ⟨?_⟩
      go_simp
      refine hK (upd U 8 (U 18)) _ _ ?_ ?_
      · rw [HA.out]; kernel_rfl
      · exact ⟨fb, fk, fs, oX, oY, f0, f1, f2, f3, f4, f5, f6, f7, f8, f9, (fun _ => g9)⟩
  intro L U1 V1 hall hF
  have hbw0 := hbw
  clear hbw
  obtain ⟨hbw, fk, fs, oX, oY, f0, f1, f2, f3, f4, f5, f6, f7, f8, f9, f10⟩ := hF
  have g0 := f0 (hall 0 (by decide))
  have g1 := f1 (hall 1 (by decide))
  have g2 := f2 (hall 2 (by decide))
  have g3 := f3 (hall 3 (by decide))
  have g4 := f4 (hall 4 (by decide))
  have g5 := f5 (hall 5 (by decide))
  have g6 := f6 (hall 6 (by decide))
  have g7 := f7 (hall 7 (by decide))
  have g8 := f8 (hall 8 (by decide))
  have g9 := f9 (hall 9 (by decide))
  have g10 := f10 (hall 10 (by decide))
  clear hall f0 f1 f2 f3 f4 f5 f6 f7 f8 f9 f10
  replace hX := hX.keepI fk
  replace hY := hY.keepI fk
  replace ltX := Nat.lt_of_lt_of_le ltX fs
  replace ltY := Nat.lt_of_lt_of_le ltY fs
  clear g0
  clear g1
  clear g2
  clear g3
  clear g4
  clear g5
  clear g6
  clear g7
  clear g8
  clear g9
  clear hbw0
  simp only [setM_some, setM_none, setM_nil]
  clear fk fs
  have eT : U1 8 = _ := g10
  try simp only []
  try go_at_K
  repeat (first | go_values | go_skip | go_guarded | go_step | go_upon)
  refine bodyPost_ret (v := (.bool true)) (by simp [results, Try.results11, go_sem, eT]) rfl ?_
  exact ⟨rfl, hbw⟩
end Go.Proofs.Ytidpbdhhbeaijaa
