/- Contract of suretyref03's Not; they prove no statement of the seat. -/
import Derived.Test.YteefniagebcagaaGreatDoorRefMJRows
namespace Go.Proofs.YteefniagebcagaaGreatDoor
open Go.RowKit
set_option linter.unusedVariables false

theorem zero_lim : (0 : Int).natAbs < lim := by have := word_lim; simp; omega

set_option maxRecDepth 20000 in
set_option maxHeartbeats 8000000 in
theorem rnot_any (vX : Value) (a : List (Nat × Int)) (m : Int) (w : World) (hX : RTermR w vX a m) :
    Calls Tryz.prog 46 #[vX] w fun e w' => ∃ v c, e = .returned (.tuple #[v, .int .i64 c]) ∧ QRes ((m + 1).natAbs < lim) (mulP a (-1)) (-(m + 1)) v c w' ∧ Below w.heap.size w w' := by
  obtain ⟨pX, qX, rX, xX, aX, nX, cX, rfl, hX⟩ := hX
  have oX := ((Blk.new w 86 #[.slice pX qX rX, .bool xX, .slice aX nX cX]).alloc (.cells #[.slice none 0 0, .bool false, .slice none 0 0] 86 (0, 0)))
  have oR := (Blk.new (w.alloc (.cells #[.slice pX qX rX, .bool xX, .slice aX nX cX] 86 (0, 0))) 86 #[.slice none 0 0, .bool false, .slice none 0 0])
  simp only [World.size_alloc] at oR
  have hbw : Below w.heap.size w ((w.alloc (.cells #[.slice pX qX rX, .bool xX, .slice aX nX cX] 86 (0, 0))).alloc (.cells #[.slice none 0 0, .bool false, .slice none 0 0] 86 (0, 0))) := by go_grown
  replace hX := hX.below hbw
  have ltX := oX.lt
  have lwX : w.heap.size ≤ w.heap.size := by omega
  have ltR := oR.lt
  have lwR : w.heap.size ≤ w.heap.size + 1 := by omega
  go_enter Tryz.func46, Tryz.ntmps46
  go_wp2
  generalize ((w.alloc (.cells #[.slice pX qX rX, .bool xX, .slice aX nX cX] 86 (0, 0))).alloc (.cells #[.slice none 0 0, .bool false, .slice none 0 0] 86 (0, 0))) = W0 at hbw oX oR ltX ltR hX ⊢
  have hbW := hbw
  refine wp_region_M (by kernel_rfl) [4, 5, 6, 7, 8] [none, none, none, none, some 4, some 5, some 6, some 7, some 8] (fun U => by kernel_rfl) (fun L U wr => Below w.heap.size w wr ∧ KeepQ W0 wr ∧ W0.heap.size ≤ wr.heap.size ∧ Blk 86 wr (w.heap.size) #[.slice pX qX rX, .bool xX, .slice aX nX cX] ∧ Blk 86 wr (w.heap.size + 1) #[.slice none 0 0, .bool false, .slice none 0 0] ∧ (L 0 = true → IS (.pointer (some ⟨w.heap.size, 1, none⟩)) (U 5) wr) ∧ (L 1 = true → IS (.agg #[.bool xX, .slice aX nX cX]) (U 6) wr) ∧ (L 2 = true → RNM 1 20 (U 7) wr) ∧ (L 3 = true → RNM (m + 1) 421 (U 8) wr) ∧ (L 4 = true → NEWU 39 W0.heap.size wr (U 4) (bif L 5 then U 8 else .agg #[.bool false, .slice none 0 0])) ∧ (L 5 = true → L 3 = true) ∧ (L 5 = true → L 4 = true)) (by kernel_rfl) ?_ ?_ ?_
  · exact fun U => ⟨hbw.drew, KeepQ.below (Below.refl _ _).drew, Nat.le_refl _, oX.drew, oR.drew, (fun h => by cases h), (fun h => by cases h), (fun h => by cases h), (fun h => by cases h), (fun h => by cases h), (fun h => by cases h), (fun h => by cases h)⟩
  · refine StepsU.run rfl ?_ ?_
    · intro L U wr hF hlk haf A K hA hK
      have HA : Hid (A = putAll _ _ U) := hA
      clear hA
      simp [Aft, Region.binds] at haf
      obtain ⟨fb, fk, fs, oX, oR, f0, f1, f2, f3, f4, s5, m4⟩ := hF
      have e1 : A.tmps[1]? = some (.pointer (some ⟨w.heap.size, 0, none⟩)) := by rw [HA.out]; kernel_rfl
      refine ⟨?_⟩
      go_simp
      refine hK (upd U 5 (.pointer (some ⟨w.heap.size, 1, none⟩))) _ _ ?_ ?_
      · rw [HA.out]; kernel_rfl
      · exact ⟨fb, fk, fs, oX, oR, (fun _ => rfl), f1, f2, f3, f4, s5, m4⟩
    refine StepsU.run rfl ?_ ?_
    · intro L U wr hF hlk haf A K hA hK
      have HA : Hid (A = putAll _ _ U) := hA
      clear hA
      simp [Aft, Region.binds] at haf
      obtain ⟨fb, fk, fs, oX, oR, f0, f1, f2, f3, f4, s5, m4⟩ := hF
      have g0 := f0 (by simp [haf])
      have e5 := rd HA.out 5 (by kernel_rfl) g0
      have c1 := Blk.cell oX 1
      have c2 := Blk.cell oX 2
      simp at c1
      simp at c2
      refine ⟨?_⟩
      go_simp
      refine hK (upd U 6 (.agg #[.bool xX, .slice aX nX cX])) _ _ ?_ ?_
      · rw [HA.out]; kernel_rfl
      · exact ⟨fb, fk, fs, oX, oR, f0, (fun _ => rfl), f2, f3, f4, s5, m4⟩
    refine StepsU.run rfl ?_ ?_
    · intro L U wr hF hlk haf A K hA hK
      have HA : Hid (A = putAll _ _ U) := hA
      clear hA
      simp [Aft, Region.binds] at haf
      obtain ⟨fb, fk, fs, oX, oR, f0, f1, f2, f3, f4, s5, m4⟩ := hF
      refine ⟨?_⟩
      go_simp
      refine (rfrom_any 1 _ (by decide) (by decide)).mono ?_
      rintro e w1 ⟨u1, u2, u3, u4, rfl, hr, hb⟩
      go_simp
      refine hK (upd U 7 (.agg #[.bool u1, .slice u2 u3 u4])) _ _ ?_ ?_
      · rw [HA.out]; kernel_rfl
      · exact ⟨(fb.step hb (Nat.le_refl _)), (fk.trans (KeepQ.below hb)), (Nat.le_trans fs hb.size), (oX.stay hb), (oR.stay hb), (mvQ mq_is (KeepQ.below hb) f0), (mvQ mq_is (KeepQ.below hb) f1), (fun _ => hr), (mvQ mq_rnm (KeepQ.below hb) f3), (fun h => (f4 h).below hb), s5, m4⟩
    refine StepsU.run rfl ?_ ?_
    · intro L U wr hF hlk haf A K hA hK
      have HA : Hid (A = putAll _ _ U) := hA
      clear hA
      simp [Aft, Region.binds] at haf
      obtain ⟨fb, fk, fs, oX, oR, f0, f1, f2, f3, f4, s5, m4⟩ := hF
      have g1 := f1 (by simp [haf])
      have e6 := rd HA.out 6 (by kernel_rfl) g1
      have g2 := f2 (by simp [haf])
      have e7 := rd HA.out 7 (by kernel_rfl) rfl
      refine ⟨?_⟩
      go_simp
      refine (rAdd_any _ _ m 1 (m + 1) 400 20 _ (hX.rest.keepQ fk) g2 (by decide) rfl).mono ?_
      rintro e w1 ⟨u1, u2, u3, u4, rfl, hr, hb⟩
      go_simp
      have hs5 : L 5 = false := by cases h : L 5 with | false => rfl | true => rw [s5 h] at hlk; cases hlk
      refine hK (upd U 8 (.agg #[.bool u1, .slice u2 u3 u4])) _ _ ?_ ?_
      · rw [HA.out]; kernel_rfl
      · exact ⟨(fb.step hb (Nat.le_refl _)), (fk.trans (KeepQ.below hb)), (Nat.le_trans fs hb.size), (oX.stay hb), (oR.stay hb), (mvQ mq_is (KeepQ.below hb) f0), (mvQ mq_is (KeepQ.below hb) f1), (mvQ mq_rnm (KeepQ.below hb) f2), (fun _ => hr), (fun h => flip_v (P := fun v => NEWU _ _ _ _ v) hs5 ((fun h => (f4 h).below hb) h)), (fun _ => rfl), m4⟩
    refine StepsU.run rfl ?_ ?_
    · intro L U wr hF hlk haf A K hA hK
      have HA : Hid (A = putAll _ _ U) := hA
      clear hA
      simp [Aft, Region.binds] at haf
      obtain ⟨fb, fk, fs, oX, oR, f0, f1, f2, f3, f4, s5, m4⟩ := hF
      have hst : L 5 = false := by cases h : L 5 with | false => rfl | true => rw [m4 h] at hlk; cases hlk
      refine ⟨?_⟩
      go_simp
      have hb := below_new wr (.cells #[.bool false, .slice none 0 0] 39 (0, 0))
      refine hK (upd U 4 (.pointer (some ⟨wr.heap.size, 0, none⟩))) _ _ ?_ ?_
      · rw [HA.out]; kernel_rfl
      · exact ⟨(fb.step hb (Nat.le_refl _)), (fk.trans (KeepQ.below hb)), (Nat.le_trans fs hb.size), (oX.stay hb), (oR.stay hb), (mvQ mq_is (KeepQ.below hb) f0), (mvQ mq_is (KeepQ.below hb) f1), (mvQ mq_rnm (KeepQ.below hb) f2), (mvQ mq_rnm (KeepQ.below hb) f3), (fun _ => newU_zero (by simp [hst]) (NEWU.mk fs (nuI _ _ _ _))), s5, (fun _ => rfl)⟩
    refine StepsU.run rfl ?_ StepsU.nil
    · intro L U wr hF hlk haf A K hA hK
      have HA : Hid (A = putAll _ _ U) := hA
      clear hA
      simp [Aft, Region.binds] at haf
      obtain ⟨fb, fk, fs, oX, oR, f0, f1, f2, f3, f4, s5, m4⟩ := hF
      have g3 := f3 (by simp [haf])
      obtain ⟨yx, ya, yn, yc, hsrc⟩ := RNum.shape g3
      have e8 := rd HA.out 8 (by kernel_rfl) hsrc
      have g4 := f4 (by simp [haf])
      rw [hlk, cond_false] at g4
      obtain ⟨b, cs, hp, hBb, hcs, hblk, hN⟩ := g4
      injection hcs with hcs
      subst hcs
      have e4 := rd HA.out 4 (by kernel_rfl) hp
      have q0 := hblk.frozen 0
      have q1 := hblk.frozen 1
      have c0 := hblk.cell 0
      have c1 := hblk.cell 1
      simp at c0
      simp at c1
      have hlt := hblk.lt
      refine ⟨?_⟩
      go_simp
      refine hK U _ _ ?_ ?_
      · exact HA.out
      · exact ⟨(below_stores (Nat.le_trans (by exact hbW.size) hBb) [.bool yx, .slice ya yn yc] 0 fb), (fk.trans (keepQ_stores (by decide) (by decide) [.bool yx, .slice ya yn yc] 0 hblk (nuI _ _ _ _) (nuI _ _ _ _))), (by simp; exact fs), (oX.otherS (Nat.ne_of_gt (Nat.lt_of_lt_of_le ltX hBb)) 0 [.bool yx, .slice ya yn yc]), (oR.otherS (Nat.ne_of_gt (Nat.lt_of_lt_of_le ltR hBb)) 0 [.bool yx, .slice ya yn yc]), (mvQ mq_is (keepQ_stores (by decide) (by decide) [.bool yx, .slice ya yn yc] 0 hblk (nuI _ _ _ _) (nuI _ _ _ _)) f0), (mvQ mq_is (keepQ_stores (by decide) (by decide) [.bool yx, .slice ya yn yc] 0 hblk (nuI _ _ _ _) (nuI _ _ _ _)) f1), (mvQ mq_rnm (keepQ_stores (by decide) (by decide) [.bool yx, .slice ya yn yc] 0 hblk (nuI _ _ _ _) (nuI _ _ _ _)) f2), (mvQ mq_rnm (keepQ_stores (by decide) (by decide) [.bool yx, .slice ya yn yc] 0 hblk (nuI _ _ _ _) (nuI _ _ _ _)) f3), (fun _ => by simp only [cond_true, Bool.true_or, beq_self_eq_true]; exact storedU_new hp hsrc (NEWU.overS hBb hblk [.bool yx, .slice ya yn yc] rfl (nuI _ _ _ _))), (fun _ => by simp [haf]), (fun _ => by simp [haf])⟩
  clear hbw oX oR
  intro L U1 V1 hall hF
  obtain ⟨hbw, fk, fs, oX, oR, f0, f1, f2, f3, f4, s5, m4⟩ := hF
  clear s5 m4
  have g0 := f0 (hall 0 (by decide))
  have g1 := f1 (hall 1 (by decide))
  have g2 := f2 (hall 2 (by decide))
  have g3 := f3 (hall 3 (by decide))
  have g4 := f4 (hall 4 (by decide))
  rw [hall 5 (by decide), cond_true] at g4
  clear hall f0 f1 f2 f3 f4
  replace hX := hX.keepQ fk
  obtain ⟨bU, csU, hpU, lbU, hcsU, oU, -⟩ := g4
  obtain ⟨xU, aU, nU, cU, hvU⟩ := RNum.shape g3
  have hU : RNum _ _ _ _ := g3
  rw [hvU] at hU hcsU
  injection hcsU with hcsU
  subst hcsU
  clear hvU
  have ltU := oU.lt
  have neXU : w.heap.size ≠ bU := Nat.ne_of_lt (Nat.lt_of_lt_of_le ltX lbU)
  have neRU : w.heap.size + 1 ≠ bU := Nat.ne_of_lt (Nat.lt_of_lt_of_le ltR lbU)
  have lwU : w.heap.size ≤ bU := Nat.le_trans hbW.size lbU
  replace ltX := oX.lt
  replace ltR := oR.lt
  clear lbU
  try clear g0
  try clear g1
  try clear g2
  try clear g3
  clear hbW
  simp only [setM_some, setM_none, setM_nil]
  rw [hpU]
  clear hpU
  clear fk fs
  obtain ⟨Uc0, Uc1, Uk0, Uk1⟩ := oU.two
  go_wp2_with fail
  refine (toobig_r _ (m + 1) 421 (decide (lim ≤ (m + 1).natAbs)) _ hU (by decide) rfl).mono ?_
  rintro e w2 ⟨rfl, hb⟩
  clear Uc0 Uc1 Uk0 Uk1
  replace oX := oX.stay hb
  replace ltX := oX.lt
  replace oR := oR.stay hb
  replace ltR := oR.lt
  replace oU := oU.stay hb
  replace ltU := oU.lt
  replace hX := hX.below hb
  replace hU := hU.below hb
  replace hbw := hbw.step hb (Nat.le_refl _)
  clear hb
  by_cases hs : (m + 1).natAbs < lim
  · have hsd : decide (lim ≤ (m + 1).natAbs) = false := decide_eq_false (by omega)
    rw [hsd]
    have HS : Hid ((m + 1).natAbs < lim) := hs
    clear hs hsd
    go_wp2
    have geR : w.heap.size ≤ w.heap.size + 1 := lwR
    have neRX : w.heap.size + 1 ≠ w.heap.size := by omega
    have hbW := hbw
    refine wp_region_M (by kernel_rfl) [3, 12, 13, 14, 15, 16, 17, 18, 19] [none, none, none, some 3, none, none, none, none, none, none, none, none, some 12, some 13, some 14, some 15, some 16, some 17, some 18, some 19] (fun U => by kernel_rfl) (fun L U wr => Below w.heap.size w wr ∧ KeepQ w2 wr ∧ w2.heap.size ≤ wr.heap.size ∧ Blk 86 wr (w.heap.size) #[.slice pX qX rX, .bool xX, .slice aX nX cX] ∧ Blk 39 wr (bU) #[.bool xU, .slice aU nU cU] ∧ BlkV 86 wr (w.heap.size + 1) (bif L 8 then U 19 else .agg #[.slice none 0 0, .bool false, .slice none 0 0]) ∧ (L 0 = true → IS (.pointer (some ⟨w.heap.size, 0, none⟩)) (U 12) wr) ∧ (L 1 = true → IS (.slice pX qX rX) (U 13) wr) ∧ (L 2 = true → IS (.agg #[.slice pX qX rX, .bool false, .slice none 0 0]) (U 14) wr) ∧ (L 3 = true → RTM (mulP a (-1)) (-0) (U 15) wr) ∧ (L 4 = true → QTS (mulP a (-1)) (U 16) wr) ∧ (L 5 = true → IS (.agg #[.bool xU, .slice aU nU cU]) (U 17) wr) ∧ (L 6 = true → RNM (-(m + 1)) 421 (U 18) wr) ∧ (L 7 = true → RTM (mulP a (-1)) (-(m + 1)) (U 19) wr) ∧ (L 9 = true → IS (.int .i64 0) (U 3) wr) ∧ (L 8 = true → L 7 = true)) (by kernel_rfl) ?_ ?_ ?_
    · exact fun U => ⟨hbw.drew, KeepQ.below (Below.refl _ _).drew, Nat.le_refl _, oX.drew, oU.drew, ⟨_, rfl, oR.drew⟩, (fun h => by cases h), (fun h => by cases h), (fun h => by cases h), (fun h => by cases h), (fun h => by cases h), (fun h => by cases h), (fun h => by cases h), (fun h => by cases h), (fun h => by cases h), (fun h => by cases h)⟩
    · refine StepsU.run rfl ?_ ?_
      · intro L U wr hF hlk haf A K hA hK
        have HA : Hid (A = putAll _ _ U) := hA
        clear hA
        simp [Aft, Region.binds] at haf
        obtain ⟨fb, fk, fs, oX, oU, rR, f0, f1, f2, f3, f4, f5, f6, f7, f9, s8⟩ := hF
        have e1 : A.tmps[1]? = some (.pointer (some ⟨w.heap.size, 0, none⟩)) := by rw [HA.out]; kernel_rfl
        refine ⟨?_⟩
        go_simp
        refine hK (upd U 12 (.pointer (some ⟨w.heap.size, 0, none⟩))) _ _ ?_ ?_
        · rw [HA.out]; kernel_rfl
        · exact ⟨fb, fk, fs, oX, oU, rR, (fun _ => rfl), f1, f2, f3, f4, f5, f6, f7, f9, s8⟩
      refine StepsU.run rfl ?_ ?_
      · intro L U wr hF hlk haf A K hA hK
        have HA : Hid (A = putAll _ _ U) := hA
        clear hA
        simp [Aft, Region.binds] at haf
        obtain ⟨fb, fk, fs, oX, oU, rR, f0, f1, f2, f3, f4, f5, f6, f7, f9, s8⟩ := hF
        have g0 := f0 (by simp [haf])
        have e12 := rd HA.out 12 (by kernel_rfl) g0
        have c0 := Blk.cell oX 0
        simp at c0
        refine ⟨?_⟩
        go_simp
        refine hK (upd U 13 (.slice pX qX rX)) _ _ ?_ ?_
        · rw [HA.out]; kernel_rfl
        · exact ⟨fb, fk, fs, oX, oU, rR, f0, (fun _ => rfl), f2, f3, f4, f5, f6, f7, f9, s8⟩
      refine StepsU.run rfl ?_ ?_
      · intro L U wr hF hlk haf A K hA hK
        have HA : Hid (A = putAll _ _ U) := hA
        clear hA
        simp [Aft, Region.binds] at haf
        obtain ⟨fb, fk, fs, oX, oU, rR, f0, f1, f2, f3, f4, f5, f6, f7, f9, s8⟩ := hF
        have g1 := f1 (by simp [haf])
        have e13 := rd HA.out 13 (by kernel_rfl) g1
        refine ⟨?_⟩
        go_simp
        refine hK (upd U 14 (.agg #[.slice pX qX rX, .bool false, .slice none 0 0])) _ _ ?_ ?_
        · rw [HA.out]; kernel_rfl
        · exact ⟨fb, fk, fs, oX, oU, rR, f0, f1, (fun _ => rfl), f3, f4, f5, f6, f7, f9, s8⟩
      refine StepsU.run rfl ?_ ?_
      · intro L U wr hF hlk haf A K hA hK
        have HA : Hid (A = putAll _ _ U) := hA
        clear hA
        simp [Aft, Region.binds] at haf
        obtain ⟨fb, fk, fs, oX, oU, rR, f0, f1, f2, f3, f4, f5, f6, f7, f9, s8⟩ := hF
        have g2 := f2 (by simp [haf])
        have e14 := rd HA.out 14 (by kernel_rfl) g2
        refine ⟨?_⟩
        go_simp
        refine (rneg3_any _ a 0 _ ⟨_, _, _, _, _, _, _, rfl, (hX.keepQ fk).len, hX.cap1, hX.cap2, hX.none, hX.arr.keepQ fk, RNum.zeroN _ _, hX.fine, zero_lim⟩).mono ?_
        rintro e w1 ⟨v, rfl, hr, hb⟩
        go_simp
        refine hK (upd U 15 v) _ _ ?_ ?_
        · rw [HA.out]; kernel_rfl
        · exact ⟨(fb.step hb (Nat.le_refl _)), (fk.trans (KeepQ.below hb)), (Nat.le_trans fs hb.size), (oX.stay hb), (oU.stay hb), (rR.stay hb), (mvQ mq_is (KeepQ.below hb) f0), (mvQ mq_is (KeepQ.below hb) f1), (mvQ mq_is (KeepQ.below hb) f2), (fun _ => hr), (mvQ mq_qts (KeepQ.below hb) f4), (mvQ mq_is (KeepQ.below hb) f5), (mvQ mq_rnm (KeepQ.below hb) f6), (mvQ mq_rtm (KeepQ.below hb) f7), (mvQ mq_is (KeepQ.below hb) f9), s8⟩
      refine StepsU.run rfl ?_ ?_
      · intro L U wr hF hlk haf A K hA hK
        have HA : Hid (A = putAll _ _ U) := hA
        clear hA
        simp [Aft, Region.binds] at haf
        obtain ⟨fb, fk, fs, oX, oU, rR, f0, f1, f2, f3, f4, f5, f6, f7, f9, s8⟩ := hF
        have g3 := f3 (by simp [haf])
        obtain ⟨y1, y2, y3, y4, y5, y6, y7, hv, h1⟩ := g3
        have e15 := rd HA.out 15 (by kernel_rfl) hv
        refine ⟨?_⟩
        go_simp
        refine hK (upd U 16 (.slice y1 y2 y3)) _ _ ?_ ?_
        · rw [HA.out]; kernel_rfl
        · exact ⟨fb, fk, fs, oX, oU, rR, f0, f1, f2, f3, (fun _ => ⟨y1, y2, y3, rfl, h1.len, h1.cap1, h1.cap2, h1.none, h1.arr⟩), f5, f6, f7, f9, s8⟩
      refine StepsU.run rfl ?_ ?_
      · intro L U wr hF hlk haf A K hA hK
        have HA : Hid (A = putAll _ _ U) := hA
        clear hA
        simp [Aft, Region.binds] at haf
        obtain ⟨fb, fk, fs, oX, oU, rR, f0, f1, f2, f3, f4, f5, f6, f7, f9, s8⟩ := hF
        have e4 : A.tmps[4]? = some (.pointer (some ⟨bU, 0, none⟩)) := by rw [HA.out]; kernel_rfl
        have c0 := Blk.cell oU 0
        have c1 := Blk.cell oU 1
        simp at c0
        simp at c1
        refine ⟨?_⟩
        go_simp
        refine hK (upd U 17 (.agg #[.bool xU, .slice aU nU cU])) _ _ ?_ ?_
        · rw [HA.out]; kernel_rfl
        · exact ⟨fb, fk, fs, oX, oU, rR, f0, f1, f2, f3, f4, (fun _ => rfl), f6, f7, f9, s8⟩
      refine StepsU.run rfl ?_ ?_
      · intro L U wr hF hlk haf A K hA hK
        have HA : Hid (A = putAll _ _ U) := hA
        clear hA
        simp [Aft, Region.binds] at haf
        obtain ⟨fb, fk, fs, oX, oU, rR, f0, f1, f2, f3, f4, f5, f6, f7, f9, s8⟩ := hF
        have g5 := f5 (by simp [haf])
        have e17 := rd HA.out 17 (by kernel_rfl) g5
        refine ⟨?_⟩
        go_simp
        refine (rneg_any _ (m + 1) 421 _ (hU.keepQ fk) (by decide)).mono ?_
        rintro e w1 ⟨u1, u2, u3, u4, rfl, hr, hb⟩
        go_simp
        refine hK (upd U 18 (.agg #[.bool u1, .slice u2 u3 u4])) _ _ ?_ ?_
        · rw [HA.out]; kernel_rfl
        · exact ⟨(fb.step hb (Nat.le_refl _)), (fk.trans (KeepQ.below hb)), (Nat.le_trans fs hb.size), (oX.stay hb), (oU.stay hb), (rR.stay hb), (mvQ mq_is (KeepQ.below hb) f0), (mvQ mq_is (KeepQ.below hb) f1), (mvQ mq_is (KeepQ.below hb) f2), (mvQ mq_rtm (KeepQ.below hb) f3), (mvQ mq_qts (KeepQ.below hb) f4), (mvQ mq_is (KeepQ.below hb) f5), (fun _ => hr), (mvQ mq_rtm (KeepQ.below hb) f7), (mvQ mq_is (KeepQ.below hb) f9), s8⟩
      refine StepsU.run rfl ?_ ?_
      · intro L U wr hF hlk haf A K hA hK
        have HA : Hid (A = putAll _ _ U) := hA
        clear hA
        simp [Aft, Region.binds] at haf
        obtain ⟨fb, fk, fs, oX, oU, rR, f0, f1, f2, f3, f4, f5, f6, f7, f9, s8⟩ := hF
        have g4 := f4 (by simp [haf])
        have g6 := f6 (by simp [haf])
        obtain ⟨y1, y2, y3, hv, h1, h2, h3, h4, h5⟩ := g4
        obtain ⟨y4, y5, y6, y7, hv2⟩ := RNum.shape g6
        have hT2 : RNum _ _ _ _ := g6
        rw [hv2] at hT2
        have e16 := rd HA.out 16 (by kernel_rfl) hv
        have e18 := rd HA.out 18 (by kernel_rfl) hv2
        refine ⟨?_⟩
        go_simp
        have hs8 : L 8 = false := by cases h : L 8 with | false => rfl | true => rw [s8 h] at hlk; cases hlk
        refine hK (upd U 19 (.agg #[.slice y1 y2 y3, .bool y4, .slice y5 y6 y7])) _ _ ?_ ?_
        · rw [HA.out]; kernel_rfl
        · exact ⟨fb, fk, fs, oX, oU, (flip_v (P := fun v => BlkV _ _ _ v) hs8 rR), f0, f1, f2, f3, f4, f5, f6, (fun _ => ⟨_, _, _, _, _, _, _, rfl, ⟨h1, h2, h3, h4, h5, hT2.short (by have := HS.out; omega), negP_fine hX.fine, by have := HS.out; omega⟩⟩), f9, (fun _ => rfl)⟩
      refine StepsU.run rfl ?_ ?_
      · intro L U wr hF hlk haf A K hA hK
        have HA : Hid (A = putAll _ _ U) := hA
        clear hA
        simp [Aft, Region.binds] at haf
        obtain ⟨fb, fk, fs, oX, oU, rR, f0, f1, f2, f3, f4, f5, f6, f7, f9, s8⟩ := hF
        have g7 := f7 (by simp [haf])
        obtain ⟨yp, yq, yr, yx, ya, yn, yc, hsrc⟩ := RTermR.shape g7
        have e19 := rd HA.out 19 (by kernel_rfl) hsrc
        have e2 : A.tmps[2]? = some (.pointer (some ⟨w.heap.size + 1, 0, none⟩)) := by rw [HA.out]; kernel_rfl
        have rV := rR
        rw [hlk, cond_false] at rV
        obtain ⟨cs, hcs, hblk⟩ := rV
        injection hcs with hcs
        subst hcs
        have q0 := hblk.frozen 0
        have q1 := hblk.frozen 1
        have q2 := hblk.frozen 2
        have c0 := hblk.cell 0
        have c1 := hblk.cell 1
        have c2 := hblk.cell 2
        simp at c0
        simp at c1
        simp at c2
        have hlt := hblk.lt
        refine ⟨?_⟩
        go_simp
        refine hK U _ _ ?_ ?_
        · exact HA.out
        · exact ⟨(below_stores geR [.slice yp yq yr, .bool yx, .slice ya yn yc] 0 fb), (fk.trans (keepQ_stores (by decide) (by decide) [.slice yp yq yr, .bool yx, .slice ya yn yc] 0 hblk (nuT _ _ _ _ _ _ _) (nuT _ _ _ _ _ _ _))), (by simp; exact fs), (oX.otherS neRX 0 [.slice yp yq yr, .bool yx, .slice ya yn yc]), (oU.otherS neRU 0 [.slice yp yq yr, .bool yx, .slice ya yn yc]), (by simp only [cond_true, Bool.true_or, beq_self_eq_true]; exact ⟨_, hsrc, hblk.overS [.slice yp yq yr, .bool yx, .slice ya yn yc] 0 rfl⟩), (mvQ mq_is (keepQ_stores (by decide) (by decide) [.slice yp yq yr, .bool yx, .slice ya yn yc] 0 hblk (nuT _ _ _ _ _ _ _) (nuT _ _ _ _ _ _ _)) f0), (mvQ mq_is (keepQ_stores (by decide) (by decide) [.slice yp yq yr, .bool yx, .slice ya yn yc] 0 hblk (nuT _ _ _ _ _ _ _) (nuT _ _ _ _ _ _ _)) f1), (mvQ mq_is (keepQ_stores (by decide) (by decide) [.slice yp yq yr, .bool yx, .slice ya yn yc] 0 hblk (nuT _ _ _ _ _ _ _) (nuT _ _ _ _ _ _ _)) f2), (mvQ mq_rtm (keepQ_stores (by decide) (by decide) [.slice yp yq yr, .bool yx, .slice ya yn yc] 0 hblk (nuT _ _ _ _ _ _ _) (nuT _ _ _ _ _ _ _)) f3), (mvQ mq_qts (keepQ_stores (by decide) (by decide) [.slice yp yq yr, .bool yx, .slice ya yn yc] 0 hblk (nuT _ _ _ _ _ _ _) (nuT _ _ _ _ _ _ _)) f4), (mvQ mq_is (keepQ_stores (by decide) (by decide) [.slice yp yq yr, .bool yx, .slice ya yn yc] 0 hblk (nuT _ _ _ _ _ _ _) (nuT _ _ _ _ _ _ _)) f5), (mvQ mq_rnm (keepQ_stores (by decide) (by decide) [.slice yp yq yr, .bool yx, .slice ya yn yc] 0 hblk (nuT _ _ _ _ _ _ _) (nuT _ _ _ _ _ _ _)) f6), (mvQ mq_rtm (keepQ_stores (by decide) (by decide) [.slice yp yq yr, .bool yx, .slice ya yn yc] 0 hblk (nuT _ _ _ _ _ _ _) (nuT _ _ _ _ _ _ _)) f7), (mvQ mq_is (keepQ_stores (by decide) (by decide) [.slice yp yq yr, .bool yx, .slice ya yn yc] 0 hblk (nuT _ _ _ _ _ _ _) (nuT _ _ _ _ _ _ _)) f9), (fun _ => by simp [haf])⟩
      refine StepsU.run rfl ?_ StepsU.nil
      · intro L U wr hF hlk haf A K hA hK
        have HA : Hid (A = putAll _ _ U) := hA
        clear hA
        simp [Aft, Region.binds] at haf
        obtain ⟨fb, fk, fs, oX, oU, rR, f0, f1, f2, f3, f4, f5, f6, f7, f9, s8⟩ := hF
        refine ⟨?_⟩
        go_simp
        refine hK (upd U 3 (.int .i64 0)) _ _ ?_ ?_
        · rw [HA.out]; kernel_rfl
        · exact ⟨fb, fk, fs, oX, oU, rR, f0, f1, f2, f3, f4, f5, f6, f7, (fun _ => rfl), s8⟩
    clear hbw oX oU oR
    intro L U3 V3 hall hF
    obtain ⟨hbw, fk, fs, oX, oU, rR, f0, f1, f2, f3, f4, f5, f6, f7, f9, s8⟩ := hF
    clear s8
    have g0 := f0 (hall 0 (by decide))
    have g1 := f1 (hall 1 (by decide))
    have g2 := f2 (hall 2 (by decide))
    have g3 := f3 (hall 3 (by decide))
    have g4 := f4 (hall 4 (by decide))
    have g5 := f5 (hall 5 (by decide))
    have g6 := f6 (hall 6 (by decide))
    have g7 := f7 (hall 7 (by decide))
    have g9 := f9 (hall 9 (by decide))
    rw [hall 8 (by decide), cond_true] at rR
    clear hall f0 f1 f2 f3 f4 f5 f6 f7 f9
    replace hX := hX.keepQ fk
    replace hU := hU.keepQ fk
    obtain ⟨csR, hcsR, oR⟩ := rR
    obtain ⟨pR, qR, rR, xR, aR, nR, cR, hvR⟩ := RTermR.shape g7
    have hR : RTermR _ _ _ _ := g7
    rw [hvR] at hR hcsR
    injection hcsR with hcsR
    subst hcsR
    clear hvR
    replace ltR := oR.lt
    replace ltX := oX.lt
    replace ltU := oU.lt
    try clear g0
    try clear g1
    try clear g2
    try clear g3
    try clear g4
    try clear g5
    try clear g6
    try clear g7
    clear hbW
    simp only [setM_some, setM_none, setM_nil]
    clear fk fs
    have e3 : U3 3 = _ := g9
    obtain ⟨Rc0, Rc1, Rc2⟩ := oR.three
    obtain ⟨Rk0, Rk1, Rk2⟩ := oR.frozen3
    try simp only []
    try go_at_K
    repeat (first | go_values | go_skip | go_guarded | go_step | go_upon)
    refine bodyPost_ret (v := .tuple #[.agg #[.slice pR qR rR, .bool xR, .slice aR nR cR], .int .i64 0]) (by simp [results, Tryz.results46, go_sem, Rc0, Rc1, Rc2, e3]) rfl ?_
    exact ⟨_, _, rfl, Or.inl ⟨HS.out, rfl, hR⟩, hbw⟩
  · have hsd : decide (lim ≤ (m + 1).natAbs) = true := decide_eq_true (by omega)
    rw [hsd]
    have HS : Hid (¬ (m + 1).natAbs < lim) := hs
    clear hs hsd
    obtain ⟨Rc0, Rc1, Rc2⟩ := oR.three
    obtain ⟨Rk0, Rk1, Rk2⟩ := oR.frozen3
    try simp only []
    try go_at_K
    repeat (first | go_values | go_skip | go_guarded | go_step | go_upon)
    refine bodyPost_ret (v := .tuple #[.agg #[.slice none 0 0, .bool false, .slice none 0 0], .int .i64 11]) (by simp [results, Tryz.results46, go_sem, Rc0, Rc1, Rc2]) rfl ?_
    obtain ⟨K1, B1, _⟩ := resTq (by decide) (by decide) oR hbw lwR none 0 0 false none 0 0
    exact ⟨_, _, rfl, Or.inr ⟨HS.out, rfl, (RTP.zero _).val⟩, B1⟩

end Go.Proofs.YteefniagebcagaaGreatDoor
