/- Contracts of ratio's Whole, IsWhole, Num, Sign, Den, Neg, Floor, Ceil; they prove no statement of the seat. -/
import Derived.Test.YtidpbdhhbeaijaaGreatQ1JReckons
import Derived.Test.YtidpbdhhbeaijaaGreatRegFJReckons
namespace Go.Proofs.YtidpbdhhbeaijaaGreat
open Go.RowKit

set_option maxHeartbeats 1000000 in
theorem whole_any (va : Value) (z : Int) (w : World) (ha : AInt w va z) :
    Calls Tryz.prog 17 #[va] w fun e w' => ∃ x a n c y e' m f, e = .returned (.agg #[.bool x, .slice a n c, .bool y, .slice e' m f]) ∧ QP w' x a n c y e' m f ((z : Rat)) ∧ Below w.heap.size w w' := by
  obtain ⟨x, a, n, c, rfl⟩ := ha.shape
  go_enter Tryz.func17, Tryz.ntmps17
  go_wp2
  refine bodyPost_ret (v := .agg #[.bool x, .slice a n c, .bool false, .slice none 0 0]) (by simp [results, Tryz.results17, go_sem]) rfl ?_
  exact ⟨_, _, _, _, _, _, _, _, rfl, QP.whole (ha.below (by go_grown)), by go_grown⟩

set_option maxHeartbeats 2000000 in
theorem isWhole_any (v : Value) (q : Rat) (r : Bool) (w : World) (hv : QV w v q) (hr : (q.den == 1) = r) :
    Calls Tryz.prog 48 #[v] w fun e w' => e = .returned (.bool r) ∧ Below w.heap.size w w' := by
  obtain ⟨x, a, n, c, y, e', m, f, rfl, h⟩ := hv
  have oX := Blk.new w 27 #[.bool x, .slice a n c, .bool y, .slice e' m f]
  have hbw := below_new w (.cells #[.bool x, .slice a n c, .bool y, .slice e' m f] 27 (0, 0))
  have h1 := h.below hbw
  go_enter Tryz.func48, Tryz.ntmps48
  obtain ⟨c0, c1, c2, c3⟩ := oX.four
  go_wp2_with fail
  refine (sign_h _ (dz q) _ h1.2).mono ?_
  rintro e w1 ⟨rfl, hb⟩
  have hr' : ((dz q).sign == 0) = r := by
    rw [← hr, Bool.eq_iff_iff, beq_iff_eq, beq_iff_eq]; exact dz_sign q
  clear hr
  go_wp2
  go_ret
  exact ⟨rfl, hbw.step hb (Nat.le_refl _)⟩

set_option maxHeartbeats 2000000 in
theorem den_any (v : Value) (q : Rat) (w : World) (hv : QV w v q) :
    Calls Tryz.prog 23 #[v] w fun e w' => ∃ s a n c, e = .returned (.agg #[.bool s, .slice a n c]) ∧ AInt w' (.agg #[.bool s, .slice a n c]) ((q.den : Int)) ∧ Below w.heap.size w w' := by
  obtain ⟨x, a, n, c, y, e', m, f, rfl, h⟩ := hv
  have oX := (Blk.new w 27 #[.bool x, .slice a n c, .bool y, .slice e' m f]).alloc (.cells #[.bool false, .slice none 0 0] 25 (0, 0))
  have rR := Blk.new (w.alloc (.cells #[.bool x, .slice a n c, .bool y, .slice e' m f] 27 (0, 0))) 25 #[.bool false, .slice none 0 0]
  simp only [World.size_alloc] at rR
  have hbw : Below w.heap.size w ((w.alloc (.cells #[.bool x, .slice a n c, .bool y, .slice e' m f] 27 (0, 0))).alloc (.cells #[.bool false, .slice none 0 0] 25 (0, 0))) := by go_grown
  have h1 := h.below hbw
  go_enter Tryz.func23, Tryz.ntmps23
  /- ((w.alloc (.cells #[.bool x, .slice a n c, .bool y, .slice e' m f] 27 (0, 0))).alloc (.cells #[.bool false, .slice none 0 0] 25 (0, 0))) = W -/
  have ltX := oX.lt
  have ltR := rR.lt
  have geR : w.heap.size ≤ w.heap.size + 1 := Nat.le_succ _
  have neRX : w.heap.size + 1 ≠ w.heap.size := Nat.succ_ne_self _
  obtain ⟨c0, c1, c2, c3⟩ := oX.four
  by_cases hd : q.den = 1
  · have HD : Hid (q.den = 1) := hd
    clear hd
    go_wp2_with fail
    refine (isWhole_any _ q true _ h1.val (by rw [HD.out]; rfl)).mono ?_
    rintro e w1 ⟨rfl, hb⟩
    go_wp2_with fail
    refine (from_any 1 _ (by decide) (by decide)).mono ?_
    rintro e w2 ⟨v2, rfl, h2, hb2⟩
    obtain ⟨s, a2, n2, c2', rfl⟩ := h2.shape
    have R2 := (rR.stay hb).stay hb2
    obtain ⟨r0, r1, f0, f1⟩ := R2.two
    go_wp2
    refine bodyPost_ret (v := .agg #[.bool s, .slice a2 n2 c2']) (by simp [results, Tryz.results23, go_sem, r0, r1]) rfl ?_
    refine ⟨_, _, _, _, rfl, ?_, below_store2 ((hbw.step hb (Nat.le_refl _)).step hb2 (Nat.le_refl _)) geR _ _⟩
    rw [HD.out]
    exact h2.store2 R2 _ _ _ _
  · have HD : Hid (q.den ≠ 1) := hd
    clear hd
    go_wp2_with fail
    refine (isWhole_any _ q false _ h1.val (by rw [beq_eq_false_iff_ne]; exact HD.out)).mono ?_
    rintro e w1 ⟨rfl, hb⟩
    have R1 := rR.stay hb
    obtain ⟨r0, r1, f0, f1⟩ := R1.two
    clear c0 c1 c2 c3
    obtain ⟨c0, c1, c2, c3⟩ := (oX.stay hb).four
    go_wp2
    refine bodyPost_ret (v := .agg #[.bool y, .slice e' m f]) (by simp [results, Tryz.results23, go_sem, r0, r1]) rfl ?_
    refine ⟨_, _, _, _, rfl, ?_, below_store2 (hbw.step hb (Nat.le_refl _)) geR _ _⟩
    have k := h1.2
    rw [dz_not HD.out] at k
    exact (k.below hb).store2 R1 _ _ _ _

set_option maxHeartbeats 2000000 in
theorem qneg_any (v : Value) (q : Rat) (w : World) (hv : QV w v q) :
    Calls Tryz.prog 29 #[v] w fun e w' => ∃ x a n c y e' m f, e = .returned (.agg #[.bool x, .slice a n c, .bool y, .slice e' m f]) ∧ QP w' x a n c y e' m f (-q) ∧ Below w.heap.size w w' := by
  obtain ⟨x, a, n, c, y, e', m, f, rfl, h⟩ := hv
  have oX := (Blk.new w 27 #[.bool x, .slice a n c, .bool y, .slice e' m f]).alloc (.cells #[.bool false, .slice none 0 0, .bool false, .slice none 0 0] 27 (0, 0))
  have rR := Blk.new (w.alloc (.cells #[.bool x, .slice a n c, .bool y, .slice e' m f] 27 (0, 0))) 27 #[.bool false, .slice none 0 0, .bool false, .slice none 0 0]
  simp only [World.size_alloc] at rR
  have hbw : Below w.heap.size w ((w.alloc (.cells #[.bool x, .slice a n c, .bool y, .slice e' m f] 27 (0, 0))).alloc (.cells #[.bool false, .slice none 0 0, .bool false, .slice none 0 0] 27 (0, 0))) := by go_grown
  have h1 := h.below hbw
  go_enter Tryz.func29, Tryz.ntmps29
  go_wp2
  generalize ((w.alloc (.cells #[.bool x, .slice a n c, .bool y, .slice e' m f] 27 (0, 0))).alloc (.cells #[.bool false, .slice none 0 0, .bool false, .slice none 0 0] 27 (0, 0))) = W at oX rR hbw h1 ⊢
  have ltX := oX.lt
  have ltR := rR.lt
  have geR : w.heap.size ≤ w.heap.size + 1 := Nat.le_succ _
  have neRX : w.heap.size + 1 ≠ w.heap.size := Nat.succ_ne_self _
  refine wp_region_M (by kernel_rfl) [3, 4, 5, 6, 7, 8] [none, none, none, some 3, some 4, some 5, some 6, some 7, some 8] (fun U => by kernel_rfl) (fun L U wr => Below w.heap.size w wr ∧ KeepI W wr ∧ W.heap.size ≤ wr.heap.size ∧ Blk 27 wr (w.heap.size) #[.bool x, .slice a n c, .bool y, .slice e' m f] ∧ BlkV 27 wr (w.heap.size + 1) (bif L 6 then U 8 else .agg #[.bool false, .slice none 0 0, .bool false, .slice none 0 0]) ∧ (L 0 = true → IS (.pointer (some ⟨w.heap.size, 0, none⟩)) (U 3) wr) ∧ (L 1 = true → IS (.agg #[.bool x, .slice a n c]) (U 4) wr) ∧ (L 2 = true → INT (-q.num) (U 5) wr) ∧ (L 3 = true → IS (.pointer (some ⟨w.heap.size, 2, none⟩)) (U 6) wr) ∧ (L 4 = true → IS (.agg #[.bool y, .slice e' m f]) (U 7) wr) ∧ (L 5 = true → RAT (-q) (U 8) wr) ∧ (L 6 = true → L 5 = true)) (by kernel_rfl) ?_ ?_ ?_
  · exact fun U => ⟨hbw.drew, KeepI.below (Below.refl _ _).drew, Nat.le_refl _, oX.drew, ⟨_, rfl, rR.drew⟩, (fun h => by cases h), (fun h => by cases h), (fun h => by cases h), (fun h => by cases h), (fun h => by cases h), (fun h => by cases h), (fun h => by cases h)⟩
  · refine StepsU.run rfl ?_ ?_
    · intro L U wr hF hlk haf A K hA hK
      have HA : Hid (A = putAll _ _ U) := hA
      clear hA
      simp [Aft, Region.binds] at haf
      obtain ⟨fb, fk, fs, oX, rR, f0, f1, f2, f3, f4, f5, s6⟩ := hF
      have e1 : A.tmps[1]? = some (.pointer (some ⟨w.heap.size, 0, none⟩)) := by rw [HA.out]; kernel_rfl
      refine ⟨?_⟩
      go_simp
      refine hK (upd U 3 (.pointer (some ⟨w.heap.size, 0, none⟩))) _ _ ?_ ?_
      · rw [HA.out]; kernel_rfl
      · exact ⟨fb, fk, fs, oX, rR, (fun _ => rfl), f1, f2, f3, f4, f5, s6⟩
    refine StepsU.run rfl ?_ ?_
    · intro L U wr hF hlk haf A K hA hK
      have HA : Hid (A = putAll _ _ U) := hA
      clear hA
      simp [Aft, Region.binds] at haf
      obtain ⟨fb, fk, fs, oX, rR, f0, f1, f2, f3, f4, f5, s6⟩ := hF
      have g0 := f0 (by simp [haf])
      have e3 := rd HA.out 3 (by kernel_rfl) g0
      obtain ⟨c0, c1, c2, c3⟩ := oX.four
      refine ⟨?_⟩
      go_simp
      refine hK (upd U 4 (.agg #[.bool x, .slice a n c])) _ _ ?_ ?_
      · rw [HA.out]; kernel_rfl
      · exact ⟨fb, fk, fs, oX, rR, f0, (fun _ => rfl), f2, f3, f4, f5, s6⟩
    refine StepsU.run rfl ?_ ?_
    · intro L U wr hF hlk haf A K hA hK
      have HA : Hid (A = putAll _ _ U) := hA
      clear hA
      simp [Aft, Region.binds] at haf
      obtain ⟨fb, fk, fs, oX, rR, f0, f1, f2, f3, f4, f5, s6⟩ := hF
      have g1 := f1 (by simp [haf])
      have e4 := rd HA.out 4 (by kernel_rfl) g1
      refine ⟨?_⟩
      go_simp
      refine (neg_any _ q.num _ (h1.1.keepI fk)).mono ?_
      rintro e w1 ⟨v5, rfl, hr, hb⟩
      go_simp
      refine hK (upd U 5 v5) _ _ ?_ ?_
      · rw [HA.out]; kernel_rfl
      · exact ⟨(fb.step hb (Nat.le_refl _)), (fk.trans (KeepI.below hb)), (Nat.le_trans fs hb.size), (oX.stay hb), (rR.stay hb), (mv mo_is (KeepI.below hb) f0), (mv mo_is (KeepI.below hb) f1), (fun _ => hr), (mv mo_is (KeepI.below hb) f3), (mv mo_is (KeepI.below hb) f4), (mv mo_rat (KeepI.below hb) f5), s6⟩
    refine StepsU.run rfl ?_ ?_
    · intro L U wr hF hlk haf A K hA hK
      have HA : Hid (A = putAll _ _ U) := hA
      clear hA
      simp [Aft, Region.binds] at haf
      obtain ⟨fb, fk, fs, oX, rR, f0, f1, f2, f3, f4, f5, s6⟩ := hF
      have e1 : A.tmps[1]? = some (.pointer (some ⟨w.heap.size, 0, none⟩)) := by rw [HA.out]; kernel_rfl
      refine ⟨?_⟩
      go_simp
      refine hK (upd U 6 (.pointer (some ⟨w.heap.size, 2, none⟩))) _ _ ?_ ?_
      · rw [HA.out]; kernel_rfl
      · exact ⟨fb, fk, fs, oX, rR, f0, f1, f2, (fun _ => rfl), f4, f5, s6⟩
    refine StepsU.run rfl ?_ ?_
    · intro L U wr hF hlk haf A K hA hK
      have HA : Hid (A = putAll _ _ U) := hA
      clear hA
      simp [Aft, Region.binds] at haf
      obtain ⟨fb, fk, fs, oX, rR, f0, f1, f2, f3, f4, f5, s6⟩ := hF
      have g3 := f3 (by simp [haf])
      have e6 := rd HA.out 6 (by kernel_rfl) g3
      obtain ⟨c0, c1, c2, c3⟩ := oX.four
      refine ⟨?_⟩
      go_simp
      refine hK (upd U 7 (.agg #[.bool y, .slice e' m f])) _ _ ?_ ?_
      · rw [HA.out]; kernel_rfl
      · exact ⟨fb, fk, fs, oX, rR, f0, f1, f2, f3, (fun _ => rfl), f5, s6⟩
    refine StepsU.run rfl ?_ ?_
    · intro L U wr hF hlk haf A K hA hK
      have HA : Hid (A = putAll _ _ U) := hA
      clear hA
      simp [Aft, Region.binds] at haf
      obtain ⟨fb, fk, fs, oX, rR, f0, f1, f2, f3, f4, f5, s6⟩ := hF
      have g2 := f2 (by simp [haf])
      obtain ⟨px, pa, pn, pc, hp⟩ := AInt.shape g2
      have e5 := rd HA.out 5 (by kernel_rfl) hp
      rw [hp] at g2
      have g4 := f4 (by simp [haf])
      have e7 := rd HA.out 7 (by kernel_rfl) g4
      refine ⟨?_⟩
      go_simp
      have hs6 : L 6 = false := by cases h : L 6 with | false => rfl | true => rw [s6 h] at hlk; cases hlk
      refine hK (upd U 8 (.agg #[.bool px, .slice pa pn pc, .bool y, .slice e' m f])) _ _ ?_ ?_
      · rw [HA.out]; kernel_rfl
      · exact ⟨fb, fk, fs, oX, (flip_v (P := fun v => BlkV _ _ _ v) hs6 rR), f0, f1, f2, f3, f4, (fun _ => ⟨_, _, _, _, _, _, _, _, rfl, g2, h1.2.keepI fk⟩), (fun _ => rfl)⟩
    refine StepsU.run rfl ?_ StepsU.nil
    · intro L U wr hF hlk haf A K hA hK
      have HA : Hid (A = putAll _ _ U) := hA
      clear hA
      simp [Aft, Region.binds] at haf
      obtain ⟨fb, fk, fs, oX, rR, f0, f1, f2, f3, f4, f5, s6⟩ := hF
      have g5 := f5 (by simp [haf])
      obtain ⟨px, pa, pn, pc, qx, qa, qn, qc, hsrc, -⟩ := g5
      have e8 := rd HA.out 8 (by kernel_rfl) hsrc
      have e2 : A.tmps[2]? = some (.pointer (some ⟨w.heap.size + 1, 0, none⟩)) := by rw [HA.out]; kernel_rfl
      simp only [hlk, cond_false] at rR
      obtain ⟨cs, hcs, hblk⟩ := rR
      injection hcs with hcs
      subst hcs
      obtain ⟨c0, c1, c2, c3⟩ := hblk.four
      obtain ⟨q0, q1, q2, q3⟩ := hblk.frozen4
      refine ⟨?_⟩
      go_simp
      have hk := keepI_four (noI_slice _ _ _) (noI_slice _ _ _) hblk px pa pn pc qx qa qn qc
      refine hK U _ _ ?_ ?_
      · exact HA.out
      · exact ⟨(below_store4 fb geR _ _ _ _), (fk.trans hk), (by simpa using fs), (oX.other4 neRX _ _ _ _), (stored_old hsrc (hblk.over4 _ _ _ _)), (mv mo_is hk f0), (mv mo_is hk f1), (mv mo_int hk f2), (mv mo_is hk f3), (mv mo_is hk f4), (mv mo_rat hk f5), (fun _ => by simp [haf])⟩
  intro L U wr hall hF
  obtain ⟨fb, fk, fs, oX, rR, f0, f1, f2, f3, f4, f5, s6⟩ := hF
  clear s6
  have g0 := f0 (hall 0 (by decide))
  have g1 := f1 (hall 1 (by decide))
  have g2 := f2 (hall 2 (by decide))
  have g3 := f3 (hall 3 (by decide))
  have g4 := f4 (hall 4 (by decide))
  have g5 := f5 (hall 5 (by decide))
  rw [hall 6 (by decide), cond_true] at rR
  clear hall f0 f1 f2 f3 f4 f5
  replace ltX := Nat.lt_of_lt_of_le ltX fs
  replace ltR := Nat.lt_of_lt_of_le ltR fs
  simp only [setM_some, setM_none, setM_nil]
  obtain ⟨cs, hcs, B⟩ := rR
  obtain ⟨px, pa, pn, pc, qx, qa, qn, qc, hv, hq⟩ := g5
  rw [hv] at hcs
  injection hcs with hcs
  subst hcs
  obtain ⟨r0, r1, r2, r3⟩ := B.four
  go_wp2
  refine bodyPost_ret (v := .agg #[.bool px, .slice pa pn pc, .bool qx, .slice qa qn qc]) (by simp [results, Tryz.results29, go_sem, r0, r1, r2, r3]) rfl ?_
  exact ⟨_, _, _, _, _, _, _, _, rfl, hq, fb⟩

end Go.Proofs.YtidpbdhhbeaijaaGreat
