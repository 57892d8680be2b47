/- Contracts of ratio's Floor, Ceil and Of; they prove no statement of the seat. -/
import Derived.Test.YtidpbdhhbeaijaaQ2JSums
namespace Go.Proofs.Ytidpbdhhbeaijaa
open Go.RowKit

theorem QV.keepI {w w' : World} {v : Value} {q : Rat} (h : QV w v q) (hk : KeepI w w') : QV w' v q := by
  obtain ⟨x, a, n, c, y, e, m, f, rfl, h⟩ := h
  exact (h.keepI hk).val
theorem den_ne (q : Rat) : (q.den : Int) ≠ 0 := by have := q.den_nz; omega

set_option maxHeartbeats 2000000 in
theorem floor_any (v : Value) (q : Rat) (z : Int) (w : World) (hv : QV w v q) (hz' : q.floor = z) :
    Calls Try.prog 29 #[v] w fun e w' => ∃ s a n c, e = .returned (.agg #[.bool s, .slice a n c]) ∧ AInt w' (.agg #[.bool s, .slice a n c]) (z) ∧ Below w.heap.size w w' := by
  obtain ⟨x, a, n, c, y, e', m, f, rfl, h⟩ := hv
  have HZ : Hid (q.num.fdiv q.den = z) := (floor_is q).trans hz'
  clear hz'
  have oX := (Blk.new w 27 #[.bool x, .slice a n c, .bool y, .slice e' m f]).alloc (.cells #[.bool false, .slice none 0 0] 25 (0, 0))
  have rR := Blk.new (w.alloc (.cells #[.bool x, .slice a n c, .bool y, .slice e' m f] 27 (0, 0))) 25 #[.bool false, .slice none 0 0]
  simp only [World.size_alloc] at rR
  have hbw : Below w.heap.size w ((w.alloc (.cells #[.bool x, .slice a n c, .bool y, .slice e' m f] 27 (0, 0))).alloc (.cells #[.bool false, .slice none 0 0] 25 (0, 0))) := by go_grown
  have h1 := h.below hbw
  go_enter Try.func29, Try.ntmps29
  go_wp2
  generalize ((w.alloc (.cells #[.bool x, .slice a n c, .bool y, .slice e' m f] 27 (0, 0))).alloc (.cells #[.bool false, .slice none 0 0] 25 (0, 0))) = W at oX rR hbw h1 ⊢
  have ltX := oX.lt
  have ltR := rR.lt
  have geR : w.heap.size ≤ w.heap.size + 1 := Nat.le_succ _
  have neRX : w.heap.size + 1 ≠ w.heap.size := Nat.succ_ne_self _
  refine wp_region_M (by kernel_rfl) [3, 4, 5, 6, 7] [none, none, none, some 3, some 4, some 5, some 6, some 7] (fun U => by kernel_rfl) (fun L U wr => Below w.heap.size w wr ∧ KeepI W wr ∧ W.heap.size ≤ wr.heap.size ∧ Blk 27 wr (w.heap.size) #[.bool x, .slice a n c, .bool y, .slice e' m f] ∧ BlkV 25 wr (w.heap.size + 1) (bif L 5 then U 7 else .agg #[.bool false, .slice none 0 0]) ∧ (L 0 = true → IS (.pointer (some ⟨w.heap.size, 0, none⟩)) (U 3) wr) ∧ (L 1 = true → IS (.agg #[.bool x, .slice a n c]) (U 4) wr) ∧ (L 2 = true → IS (.agg #[.bool x, .slice a n c, .bool y, .slice e' m f]) (U 5) wr) ∧ (L 3 = true → INT (q.den : Int) (U 6) wr) ∧ (L 4 = true → INT z (U 7) wr) ∧ (L 5 = true → L 4 = true)) (by kernel_rfl) ?_ ?_ ?_
  · exact fun U => ⟨hbw.drew, KeepI.below (Below.refl _ _).drew, Nat.le_refl _, oX.drew, ⟨_, rfl, rR.drew⟩, (fun h => by cases h), (fun h => by cases h), (fun h => by cases h), (fun h => by cases h), (fun h => by cases h), (fun h => by cases h)⟩
  · refine StepsU.run rfl ?_ ?_
    · intro L U wr hF hlk haf A K hA hK
      have HA : Hid (A = putAll _ _ U) := hA
      clear hA
      simp [Aft, Region.binds] at haf
      obtain ⟨fb, fk, fs, oX, rR, f0, f1, f2, f3, f4, s5⟩ := hF
      have e1 : A.tmps[1]? = some (.pointer (some ⟨w.heap.size, 0, none⟩)) := by rw [HA.out]; kernel_rfl
      refine ⟨?_⟩
      go_simp
      refine hK (upd U 3 (.pointer (some ⟨w.heap.size, 0, none⟩))) _ _ ?_ ?_
      · rw [HA.out]; kernel_rfl
      · exact ⟨fb, fk, fs, oX, rR, (fun _ => rfl), f1, f2, f3, f4, s5⟩
    refine StepsU.run rfl ?_ ?_
    · intro L U wr hF hlk haf A K hA hK
      have HA : Hid (A = putAll _ _ U) := hA
      clear hA
      simp [Aft, Region.binds] at haf
      obtain ⟨fb, fk, fs, oX, rR, f0, f1, f2, f3, f4, s5⟩ := hF
      have g0 := f0 (by simp [haf])
      have e3 := rd HA.out 3 (by kernel_rfl) g0
      obtain ⟨c0, c1, c2, c3⟩ := oX.four
      refine ⟨?_⟩
      go_simp
      refine hK (upd U 4 (.agg #[.bool x, .slice a n c])) _ _ ?_ ?_
      · rw [HA.out]; kernel_rfl
      · exact ⟨fb, fk, fs, oX, rR, f0, (fun _ => rfl), f2, f3, f4, s5⟩
    refine StepsU.run rfl ?_ ?_
    · intro L U wr hF hlk haf A K hA hK
      have HA : Hid (A = putAll _ _ U) := hA
      clear hA
      simp [Aft, Region.binds] at haf
      obtain ⟨fb, fk, fs, oX, rR, f0, f1, f2, f3, f4, s5⟩ := hF
      have e1 : A.tmps[1]? = some (.pointer (some ⟨w.heap.size, 0, none⟩)) := by rw [HA.out]; kernel_rfl
      obtain ⟨c0, c1, c2, c3⟩ := oX.four
      refine ⟨?_⟩
      go_simp
      refine hK (upd U 5 (.agg #[.bool x, .slice a n c, .bool y, .slice e' m f])) _ _ ?_ ?_
      · rw [HA.out]; kernel_rfl
      · exact ⟨fb, fk, fs, oX, rR, f0, f1, (fun _ => rfl), f3, f4, s5⟩
    refine StepsU.run rfl ?_ ?_
    · intro L U wr hF hlk haf A K hA hK
      have HA : Hid (A = putAll _ _ U) := hA
      clear hA
      simp [Aft, Region.binds] at haf
      obtain ⟨fb, fk, fs, oX, rR, f0, f1, f2, f3, f4, s5⟩ := hF
      have g2 := f2 (by simp [haf])
      have e5 := rd HA.out 5 (by kernel_rfl) g2
      refine ⟨?_⟩
      go_simp
      refine (den_any _ q _ (h1.val.keepI fk)).mono ?_
      rintro e w1 ⟨s6, a6, n6, c6, rfl, hr, hb⟩
      go_simp
      refine hK (upd U 6 (.agg #[.bool s6, .slice a6 n6 c6])) _ _ ?_ ?_
      · rw [HA.out]; kernel_rfl
      · exact ⟨(fb.step hb (Nat.le_refl _)), (fk.trans (KeepI.below hb)), (Nat.le_trans fs hb.size), (oX.stay hb), (rR.stay hb), (mv mo_is (KeepI.below hb) f0), (mv mo_is (KeepI.below hb) f1), (mv mo_is (KeepI.below hb) f2), (fun _ => hr), (mv mo_int (KeepI.below hb) f4), s5⟩
    refine StepsU.run rfl ?_ ?_
    · intro L U wr hF hlk haf A K hA hK
      have HA : Hid (A = putAll _ _ U) := hA
      clear hA
      simp [Aft, Region.binds] at haf
      obtain ⟨fb, fk, fs, oX, rR, f0, f1, f2, f3, f4, s5⟩ := hF
      have g1 := f1 (by simp [haf])
      have e4 := rd HA.out 4 (by kernel_rfl) g1
      have g3 := f3 (by simp [haf])
      have e6 := rd HA.out 6 (by kernel_rfl) rfl
      refine ⟨?_⟩
      go_simp
      refine (quotient_any _ _ q.num q.den z _ (h1.1.keepI fk) g3 (den_ne q) HZ.out).mono ?_
      rintro e w1 ⟨s7, a7, n7, c7, rfl, hr, hb⟩
      go_simp
      have hs5 : L 5 = false := by cases h : L 5 with | false => rfl | true => rw [s5 h] at hlk; cases hlk
      refine hK (upd U 7 (.agg #[.bool s7, .slice a7 n7 c7])) _ _ ?_ ?_
      · rw [HA.out]; kernel_rfl
      · exact ⟨(fb.step hb (Nat.le_refl _)), (fk.trans (KeepI.below hb)), (Nat.le_trans fs hb.size), (oX.stay hb), (flip_v (P := fun v => BlkV _ _ _ v) hs5 (rR.stay hb)), (mv mo_is (KeepI.below hb) f0), (mv mo_is (KeepI.below hb) f1), (mv mo_is (KeepI.below hb) f2), (mv mo_int (KeepI.below hb) f3), (fun _ => hr), (fun _ => rfl)⟩
    refine StepsU.run rfl ?_ StepsU.nil
    · intro L U wr hF hlk haf A K hA hK
      have HA : Hid (A = putAll _ _ U) := hA
      clear hA
      simp [Aft, Region.binds] at haf
      obtain ⟨fb, fk, fs, oX, rR, f0, f1, f2, f3, f4, s5⟩ := hF
      have g4 := f4 (by simp [haf])
      obtain ⟨px, pa, pn, pc, hsrc⟩ := AInt.shape g4
      have e7 := rd HA.out 7 (by kernel_rfl) hsrc
      have e2 : A.tmps[2]? = some (.pointer (some ⟨w.heap.size + 1, 0, none⟩)) := by rw [HA.out]; kernel_rfl
      simp only [hlk, cond_false] at rR
      obtain ⟨cs, hcs, hblk⟩ := rR
      injection hcs with hcs
      subst hcs
      obtain ⟨c0, c1, q0, q1⟩ := hblk.two
      refine ⟨?_⟩
      go_simp
      have hk := keepI_two hblk px pa pn pc
      refine hK U _ _ ?_ ?_
      · exact HA.out
      · exact ⟨(below_store2 fb geR _ _), (fk.trans hk), (by simpa using fs), (oX.other2 neRX _ _), (stored_old hsrc (hblk.over2 _ _)), (mv mo_is hk f0), (mv mo_is hk f1), (mv mo_is hk f2), (mv mo_int hk f3), (mv mo_int hk f4), (fun _ => by simp [haf])⟩
  intro L U wr hall hF
  obtain ⟨fb, fk, fs, oX, rR, f0, f1, f2, f3, f4, s5⟩ := hF
  clear s5
  have g0 := f0 (hall 0 (by decide))
  have g1 := f1 (hall 1 (by decide))
  have g2 := f2 (hall 2 (by decide))
  have g3 := f3 (hall 3 (by decide))
  have g4 := f4 (hall 4 (by decide))
  rw [hall 5 (by decide), cond_true] at rR
  clear hall f0 f1 f2 f3 f4
  replace ltX := Nat.lt_of_lt_of_le ltX fs
  replace ltR := Nat.lt_of_lt_of_le ltR fs
  simp only [setM_some, setM_none, setM_nil]
  obtain ⟨cs, hcs, B⟩ := rR
  obtain ⟨px, pa, pn, pc, hv⟩ := AInt.shape g4
  rw [hv] at hcs g4
  injection hcs with hcs
  subst hcs
  obtain ⟨r0, r1, -, -⟩ := B.two
  go_wp2
  refine bodyPost_ret (v := .agg #[.bool px, .slice pa pn pc]) (by simp [results, Try.results29, go_sem, r0, r1]) rfl ?_
  exact ⟨_, _, _, _, rfl, g4, fb⟩

set_option maxHeartbeats 2000000 in
theorem ceil_any (v : Value) (q : Rat) (z : Int) (w : World) (hv : QV w v q) (hz' : q.ceil = z) :
    Calls Try.prog 30 #[v] w fun e w' => ∃ s a n c, e = .returned (.agg #[.bool s, .slice a n c]) ∧ AInt w' (.agg #[.bool s, .slice a n c]) (z) ∧ Below w.heap.size w w' := by
  obtain ⟨x, a, n, c, y, e', m, f, rfl, h⟩ := hv
  have HZ : Hid (-((-q).floor) = z) := by show _ = _; rw [← hz', Rat.ceil_eq_neg_floor_neg]
  clear hz'
  have rR := Blk.new (w.alloc (.cells #[.bool x, .slice a n c, .bool y, .slice e' m f] 27 (0, 0))) 25 #[.bool false, .slice none 0 0]
  simp only [World.size_alloc] at rR
  have hbw : Below w.heap.size w ((w.alloc (.cells #[.bool x, .slice a n c, .bool y, .slice e' m f] 27 (0, 0))).alloc (.cells #[.bool false, .slice none 0 0] 25 (0, 0))) := by go_grown
  have h1 := h.below hbw
  go_enter Try.func30, Try.ntmps30
  go_wp2_with fail
  refine (qneg_any _ q _ h1.val).mono ?_
  rintro e w1 ⟨x1, a1, n1, c1, y1, e1, m1, f1, rfl, k1, hb1⟩
  go_wp2_with fail
  refine (floor_any _ (-q) _ _ k1.val rfl).mono ?_
  rintro e w2 ⟨s2, a2, n2, c2, rfl, k2, hb2⟩
  go_wp2_with fail
  refine (neg_any _ _ _ k2).mono ?_
  rintro e w3 ⟨v3, rfl, k3, hb3⟩
  obtain ⟨s3, a3, n3, c3, rfl⟩ := k3.shape
  have R3 := ((rR.stay hb1).stay hb2).stay hb3
  obtain ⟨r0, r1, f0, f1⟩ := R3.two
  go_wp2
  refine bodyPost_ret (v := .agg #[.bool s3, .slice a3 n3 c3]) (by simp [results, Try.results30, go_sem, r0, r1]) rfl ?_
  refine ⟨_, _, _, _, rfl, ?_, below_store2 (((hbw.step hb1 (Nat.le_refl _)).step hb2 (Nat.le_refl _)).step hb3 (Nat.le_refl _)) (Nat.le_succ _) _ _⟩
  rw [HZ.out] at k3
  exact k3.store2 R3 _ _ _ _

set_option maxHeartbeats 2000000 in
theorem of_zero (va vb : Value) (x : Int) (w : World) (ha : AInt w va x) (hb : AInt w vb 0) :
    Calls Try.prog 15 #[va, vb] w fun e w' => ∃ x1 a1 n1 c1 y1 e1 m1 f1, e = .returned (.tuple #[.agg #[.bool x1, .slice a1 n1 c1, .bool y1, .slice e1 m1 f1], .int .i64 12]) ∧ QP w' x1 a1 n1 c1 y1 e1 m1 f1 (0) ∧ Below w.heap.size w w' := by
  obtain ⟨na, ao, n, cap, rfl⟩ := ha.shape
  obtain ⟨nb, bo, m, cap', rfl⟩ := hb.shape
  have A0 := ((Blk.new w 25 #[.bool na, .slice ao n cap]).alloc (.cells #[.bool nb, .slice bo m cap'] 25 (0, 0))).alloc (.cells #[.bool false, .slice none 0 0, .bool false, .slice none 0 0] 27 (0, 0))
  have B0 := (Blk.new (w.alloc (.cells #[.bool na, .slice ao n cap] 25 (0, 0))) 25 #[.bool nb, .slice bo m cap']).alloc (.cells #[.bool false, .slice none 0 0, .bool false, .slice none 0 0] 27 (0, 0))
  have R0 := Blk.new ((w.alloc (.cells #[.bool na, .slice ao n cap] 25 (0, 0))).alloc (.cells #[.bool nb, .slice bo m cap'] 25 (0, 0))) 27 #[.bool false, .slice none 0 0, .bool false, .slice none 0 0]
  simp only [World.size_alloc] at B0 R0
  have hbw0 : Below w.heap.size w (((w.alloc (.cells #[.bool na, .slice ao n cap] 25 (0, 0))).alloc (.cells #[.bool nb, .slice bo m cap'] 25 (0, 0))).alloc (.cells #[.bool false, .slice none 0 0, .bool false, .slice none 0 0] 27 (0, 0))) := by go_grown
  have ha1 := ha.below hbw0
  have hb1 := hb.below hbw0
  go_enter Try.func15, Try.ntmps15
  go_wp2_with fail
  refine (sgn_h _ 0 0 _ hb1 rfl).mono ?_
  rintro e w1 ⟨rfl, hv1⟩
  have R1 := R0.stay hv1
  obtain ⟨r0, r1, r2, r3⟩ := R1.four
  obtain ⟨f0, f1, f2, f3⟩ := R1.frozen4
  go_wp2
  refine bodyPost_ret (v := .tuple #[.agg #[.bool false, .slice none 0 0, .bool false, .slice none 0 0], .int .i64 12]) (by simp [results, Try.results15, go_sem, r0, r1, r2, r3]) rfl ?_
  refine ⟨_, _, _, _, _, _, _, _, rfl, QP.zero, ?_⟩
  first
    | exact below_store4 (hbw0.step hv1 (Nat.le_refl _)) (by omega) _ _ _ _
    | exact hbw0.step hv1 (Nat.le_refl _)

set_option maxHeartbeats 4000000 in
theorem of_pos (va vb : Value) (x y : Int) (w : World) (ha : AInt w va x) (hb : AInt w vb y) (hy : 0 < y) :
    Calls Try.prog 15 #[va, vb] w fun e w' => ∃ x1 a1 n1 c1 y1 e1 m1 f1, e = .returned (.tuple #[.agg #[.bool x1, .slice a1 n1 c1, .bool y1, .slice e1 m1 f1], .int .i64 0]) ∧ QP w' x1 a1 n1 c1 y1 e1 m1 f1 (Rat.divInt x y) ∧ Below w.heap.size w w' := by
  obtain ⟨na, ao, n, cap, rfl⟩ := ha.shape
  obtain ⟨nb, bo, m, cap', rfl⟩ := hb.shape
  have A0 := ((Blk.new w 25 #[.bool na, .slice ao n cap]).alloc (.cells #[.bool nb, .slice bo m cap'] 25 (0, 0))).alloc (.cells #[.bool false, .slice none 0 0, .bool false, .slice none 0 0] 27 (0, 0))
  have B0 := (Blk.new (w.alloc (.cells #[.bool na, .slice ao n cap] 25 (0, 0))) 25 #[.bool nb, .slice bo m cap']).alloc (.cells #[.bool false, .slice none 0 0, .bool false, .slice none 0 0] 27 (0, 0))
  have R0 := Blk.new ((w.alloc (.cells #[.bool na, .slice ao n cap] 25 (0, 0))).alloc (.cells #[.bool nb, .slice bo m cap'] 25 (0, 0))) 27 #[.bool false, .slice none 0 0, .bool false, .slice none 0 0]
  simp only [World.size_alloc] at B0 R0
  have hbw0 : Below w.heap.size w (((w.alloc (.cells #[.bool na, .slice ao n cap] 25 (0, 0))).alloc (.cells #[.bool nb, .slice bo m cap'] 25 (0, 0))).alloc (.cells #[.bool false, .slice none 0 0, .bool false, .slice none 0 0] 27 (0, 0))) := by go_grown
  have ha1 := ha.below hbw0
  have hb1 := hb.below hbw0
  have HS : Hid (y.sign = 1) := Int.sign_eq_one_of_pos hy
  have HY : Hid (0 < y) := hy
  clear hy
  go_enter Try.func15, Try.ntmps15
  go_wp2_with fail
  refine (sgn_h _ y (1) _ hb1 HS.out).mono ?_
  rintro e w1 ⟨rfl, hv1⟩
  have A1 := A0.stay hv1
  have B1 := B0.stay hv1
  have R1 := R0.stay hv1
  have hbw1 := hbw0.step hv1 (Nat.le_refl _)
  have ha2 := ha1.below hv1
  have hb2 := hb1.below hv1
  obtain ⟨a0, a1, -, -⟩ := A1.two
  obtain ⟨b0, b1, -, -⟩ := B1.two
  clear A0 B0 R0 hbw0 ha1 hb1 hv1
  go_wp2_with fail
  refine (gcd_h _ _ x y _ _ ha2 hb2 rfl).mono ?_
  rintro e w2 ⟨ng, go, ln, cg, rfl, hg2, hv2⟩
  have hvg := below_new w2 (.cells #[.bool ng, .slice go ln cg] 25 (0, 0))
  have A2 := (A1.stay hv2).stay hvg
  have B2 := (B1.stay hv2).stay hvg
  have R2 := (R1.stay hv2).stay hvg
  have G2 := Blk.new w2 25 #[.bool ng, .slice go ln cg]
  have hbw2 := (hbw1.step hv2 (Nat.le_refl _)).step hvg (Nat.le_refl _)
  have ha3 := (ha2.below hv2).below hvg
  have hb3 := (hb2.below hv2).below hvg
  have hg3 := hg2.below hvg
  have l1 := (R1.stay hv2).lt
  clear a0 a1 b0 b1
  obtain ⟨b0, b1, -, -⟩ := B2.two
  clear A1 B1 R1 hbw1 ha2 hb2 hv2 hg2 hvg
  go_wp2_with fail
  refine (sgn_h _ y (1) _ hb3 HS.out).mono ?_
  rintro e w3 ⟨rfl, hv3⟩
  have A3 := A2.stay hv3
  have B3 := B2.stay hv3
  have R3 := R2.stay hv3
  have G3 := G2.stay hv3
  have hbw3 := hbw2.step hv3 (Nat.le_refl _)
  have ha4 := ha3.below hv3
  have hb4 := hb3.below hv3
  have hg4 := hg3.below hv3
  clear b0 b1
  obtain ⟨g0, g1, -, -⟩ := G3.two
  clear A2 B2 R2 G2 hbw2 ha3 hb3 hg3 hv3
  have oA := A3
  have oB := B3
  have rR := R3
  have oG := G3
  have hbw := hbw3
  have hA := ha4
  have hB := hb4
  have hG := hg4
  clear A3 B3 R3 hbw3 ha4 hb4 hg4
  go_wp2
  obtain ⟨W, hW⟩ : ∃ W, W = w3 := ⟨_, rfl⟩
  rw [← hW] at oA oB rR oG hbw hA hB hG ⊢
  clear hW G3 g0 g1
  have ltA := oA.lt
  have ltB := oB.lt
  have ltG := oG.lt
  have ltR := rR.lt
  have geR : w.heap.size ≤ w.heap.size + 1 + 1 := by omega
  have neRA : w.heap.size + 1 + 1 ≠ w.heap.size := by omega
  have neRB : w.heap.size + 1 + 1 ≠ w.heap.size + 1 := by omega
  have neRG : w.heap.size + 1 + 1 ≠ w2.heap.size := by omega
  have HG0 : Hid (((Int.gcd x y : Nat) : Int) ≠ 0) := by
    show _ ≠ _
    have := gcdz_pos (a := x) (b := y) (by have := HY.out; omega)
    omega
  have HP : Hid ((Rat.divInt x y).num = x.fdiv ((Int.gcd x y : Nat) : Int) ∧ ((Rat.divInt x y).den : Int) = y.fdiv ((Int.gcd x y : Nat) : Int)) := divInt_parts HY.out
  refine wp_region_M (by kernel_rfl) [5, 19, 20, 21, 22, 23, 24, 25] [none, none, none, none, none, some 5, none, none, none, none, none, none, none, none, none, none, none, none, none, some 19, some 20, some 21, some 22, some 23, some 24, some 25] (fun U => by kernel_rfl) (fun L U wr => Below w.heap.size w wr ∧ KeepI W wr ∧ W.heap.size ≤ wr.heap.size ∧ Blk 25 wr (w.heap.size) #[.bool na, .slice ao n cap] ∧ Blk 25 wr (w.heap.size + 1) #[.bool nb, .slice bo m cap'] ∧ Blk 25 wr (w2.heap.size) #[.bool ng, .slice go ln cg] ∧ BlkV 27 wr (w.heap.size + 1 + 1) (bif L 7 then U 25 else .agg #[.bool false, .slice none 0 0, .bool false, .slice none 0 0]) ∧ (L 0 = true → IS (.agg #[.bool na, .slice ao n cap]) (U 19) wr) ∧ (L 1 = true → IS (.agg #[.bool ng, .slice go ln cg]) (U 20) wr) ∧ (L 2 = true → INT (x.fdiv ((Int.gcd x y : Nat) : Int)) (U 21) wr) ∧ (L 3 = true → IS (.agg #[.bool nb, .slice bo m cap']) (U 22) wr) ∧ (L 4 = true → IS (.agg #[.bool ng, .slice go ln cg]) (U 23) wr) ∧ (L 5 = true → INT (y.fdiv ((Int.gcd x y : Nat) : Int)) (U 24) wr) ∧ (L 6 = true → RAT (Rat.divInt x y) (U 25) wr) ∧ (L 8 = true → IS (.int .i64 0) (U 5) wr) ∧ (L 7 = true → L 6 = true)) (by kernel_rfl) ?_ ?_ ?_
  · exact fun U => ⟨hbw.drew, KeepI.below (Below.refl _ _).drew, Nat.le_refl _, oA.drew, oB.drew, oG.drew, ⟨_, rfl, rR.drew⟩, (fun h => by cases h), (fun h => by cases h), (fun h => by cases h), (fun h => by cases h), (fun h => by cases h), (fun h => by cases h), (fun h => by cases h), (fun h => by cases h), (fun h => by cases h)⟩
  · refine StepsU.run rfl ?_ ?_
    · intro L U wr hF hlk haf A K hA hK
      have HA : Hid (A = putAll _ _ U) := hA
      clear hA
      simp [Aft, Region.binds] at haf
      obtain ⟨fb, fk, fs, oA, oB, oG, rR, f0, f1, f2, f3, f4, f5, f6, f8, s7⟩ := hF
      have e2 : A.tmps[2]? = some (.pointer (some ⟨w.heap.size, 0, none⟩)) := by rw [HA.out]; kernel_rfl
      obtain ⟨c0, c1, -, -⟩ := oA.two
      refine ⟨?_⟩
      go_simp
      refine hK (upd U 19 (.agg #[.bool na, .slice ao n cap])) _ _ ?_ ?_
      · rw [HA.out]; kernel_rfl
      · exact ⟨fb, fk, fs, oA, oB, oG, rR, (fun _ => rfl), f1, f2, f3, f4, f5, f6, f8, s7⟩
    refine StepsU.run rfl ?_ ?_
    · intro L U wr hF hlk haf A K hA hK
      have HA : Hid (A = putAll _ _ U) := hA
      clear hA
      simp [Aft, Region.binds] at haf
      obtain ⟨fb, fk, fs, oA, oB, oG, rR, f0, f1, f2, f3, f4, f5, f6, f8, s7⟩ := hF
      have e6 : A.tmps[6]? = some (.pointer (some ⟨w2.heap.size, 0, none⟩)) := by rw [HA.out]; kernel_rfl
      obtain ⟨c0, c1, -, -⟩ := oG.two
      refine ⟨?_⟩
      go_simp
      refine hK (upd U 20 (.agg #[.bool ng, .slice go ln cg])) _ _ ?_ ?_
      · rw [HA.out]; kernel_rfl
      · exact ⟨fb, fk, fs, oA, oB, oG, rR, f0, (fun _ => rfl), f2, f3, f4, f5, f6, f8, s7⟩
    refine StepsU.run rfl ?_ ?_
    · intro L U wr hF hlk haf A K hA hK
      have HA : Hid (A = putAll _ _ U) := hA
      clear hA
      simp [Aft, Region.binds] at haf
      obtain ⟨fb, fk, fs, oA, oB, oG, rR, f0, f1, f2, f3, f4, f5, f6, f8, s7⟩ := hF
      have g0 := f0 (by simp [haf])
      have e19 := rd HA.out 19 (by kernel_rfl) g0
      have g1 := f1 (by simp [haf])
      have e20 := rd HA.out 20 (by kernel_rfl) g1
      refine ⟨?_⟩
      go_simp
      refine (quotient_any _ _ x ((Int.gcd x y : Nat) : Int) _ _ (hA.keepI fk) (hG.keepI fk) HG0.out rfl).mono ?_
      rintro e w1 ⟨s6, a6, n6, c6, rfl, hr, hb⟩
      go_simp
      refine hK (upd U 21 (.agg #[.bool s6, .slice a6 n6 c6])) _ _ ?_ ?_
      · rw [HA.out]; kernel_rfl
      · exact ⟨(fb.step hb (Nat.le_refl _)), (fk.trans (KeepI.below hb)), (Nat.le_trans fs hb.size), (oA.stay hb), (oB.stay hb), (oG.stay hb), (rR.stay hb), (mv mo_is (KeepI.below hb) f0), (mv mo_is (KeepI.below hb) f1), (fun _ => hr), (mv mo_is (KeepI.below hb) f3), (mv mo_is (KeepI.below hb) f4), (mv mo_int (KeepI.below hb) f5), (mv mo_rat (KeepI.below hb) f6), (mv mo_is (KeepI.below hb) f8), s7⟩
    refine StepsU.run rfl ?_ ?_
    · intro L U wr hF hlk haf A K hA hK
      have HA : Hid (A = putAll _ _ U) := hA
      clear hA
      simp [Aft, Region.binds] at haf
      obtain ⟨fb, fk, fs, oA, oB, oG, rR, f0, f1, f2, f3, f4, f5, f6, f8, s7⟩ := hF
      have e3 : A.tmps[3]? = some (.pointer (some ⟨w.heap.size + 1, 0, none⟩)) := by rw [HA.out]; kernel_rfl
      obtain ⟨c0, c1, -, -⟩ := oB.two
      refine ⟨?_⟩
      go_simp
      refine hK (upd U 22 (.agg #[.bool nb, .slice bo m cap'])) _ _ ?_ ?_
      · rw [HA.out]; kernel_rfl
      · exact ⟨fb, fk, fs, oA, oB, oG, rR, f0, f1, f2, (fun _ => rfl), f4, f5, f6, f8, s7⟩
    refine StepsU.run rfl ?_ ?_
    · intro L U wr hF hlk haf A K hA hK
      have HA : Hid (A = putAll _ _ U) := hA
      clear hA
      simp [Aft, Region.binds] at haf
      obtain ⟨fb, fk, fs, oA, oB, oG, rR, f0, f1, f2, f3, f4, f5, f6, f8, s7⟩ := hF
      have e6 : A.tmps[6]? = some (.pointer (some ⟨w2.heap.size, 0, none⟩)) := by rw [HA.out]; kernel_rfl
      obtain ⟨c0, c1, -, -⟩ := oG.two
      refine ⟨?_⟩
      go_simp
      refine hK (upd U 23 (.agg #[.bool ng, .slice go ln cg])) _ _ ?_ ?_
      · rw [HA.out]; kernel_rfl
      · exact ⟨fb, fk, fs, oA, oB, oG, rR, f0, f1, f2, f3, (fun _ => rfl), f5, f6, f8, s7⟩
    refine StepsU.run rfl ?_ ?_
    · intro L U wr hF hlk haf A K hA hK
      have HA : Hid (A = putAll _ _ U) := hA
      clear hA
      simp [Aft, Region.binds] at haf
      obtain ⟨fb, fk, fs, oA, oB, oG, rR, f0, f1, f2, f3, f4, f5, f6, f8, s7⟩ := hF
      have g3 := f3 (by simp [haf])
      have e22 := rd HA.out 22 (by kernel_rfl) g3
      have g4 := f4 (by simp [haf])
      have e23 := rd HA.out 23 (by kernel_rfl) g4
      refine ⟨?_⟩
      go_simp
      refine (quotient_any _ _ y ((Int.gcd x y : Nat) : Int) _ _ (hB.keepI fk) (hG.keepI fk) HG0.out rfl).mono ?_
      rintro e w1 ⟨s6, a6, n6, c6, rfl, hr, hb⟩
      go_simp
      refine hK (upd U 24 (.agg #[.bool s6, .slice a6 n6 c6])) _ _ ?_ ?_
      · rw [HA.out]; kernel_rfl
      · exact ⟨(fb.step hb (Nat.le_refl _)), (fk.trans (KeepI.below hb)), (Nat.le_trans fs hb.size), (oA.stay hb), (oB.stay hb), (oG.stay hb), (rR.stay hb), (mv mo_is (KeepI.below hb) f0), (mv mo_is (KeepI.below hb) f1), (mv mo_int (KeepI.below hb) f2), (mv mo_is (KeepI.below hb) f3), (mv mo_is (KeepI.below hb) f4), (fun _ => hr), (mv mo_rat (KeepI.below hb) f6), (mv mo_is (KeepI.below hb) f8), s7⟩
    refine StepsU.run rfl ?_ ?_
    · intro L U wr hF hlk haf A K hA hK
      have HA : Hid (A = putAll _ _ U) := hA
      clear hA
      simp [Aft, Region.binds] at haf
      obtain ⟨fb, fk, fs, oA, oB, oG, rR, f0, f1, f2, f3, f4, f5, f6, f8, s7⟩ := hF
      have g2 := f2 (by simp [haf])
      have e21 := rd HA.out 21 (by kernel_rfl) rfl
      have g5 := f5 (by simp [haf])
      have e24 := rd HA.out 24 (by kernel_rfl) rfl
      refine ⟨?_⟩
      go_simp
      refine (lowest_any _ _ _ _ (Rat.divInt x y) _ g2 g5 HP.out.1 HP.out.2).mono ?_
      rintro e w1 ⟨j1, j2, j3, j4, j5, j6, j7, j8, rfl, hr, hb⟩
      go_simp
      have hs7 : L 7 = false := by cases h : L 7 with | false => rfl | true => rw [s7 h] at hlk; cases hlk
      refine hK (upd U 25 (.agg #[.bool j1, .slice j2 j3 j4, .bool j5, .slice j6 j7 j8])) _ _ ?_ ?_
      · rw [HA.out]; kernel_rfl
      · exact ⟨(fb.step hb (Nat.le_refl _)), (fk.trans (KeepI.below hb)), (Nat.le_trans fs hb.size), (oA.stay hb), (oB.stay hb), (oG.stay hb), (flip_v (P := fun v => BlkV _ _ _ v) hs7 (rR.stay hb)), (mv mo_is (KeepI.below hb) f0), (mv mo_is (KeepI.below hb) f1), (mv mo_int (KeepI.below hb) f2), (mv mo_is (KeepI.below hb) f3), (mv mo_is (KeepI.below hb) f4), (mv mo_int (KeepI.below hb) f5), (fun _ => hr.val), (mv mo_is (KeepI.below hb) f8), (fun _ => rfl)⟩
    refine StepsU.run rfl ?_ ?_
    · intro L U wr hF hlk haf A K hA hK
      have HA : Hid (A = putAll _ _ U) := hA
      clear hA
      simp [Aft, Region.binds] at haf
      obtain ⟨fb, fk, fs, oA, oB, oG, rR, f0, f1, f2, f3, f4, f5, f6, f8, s7⟩ := hF
      have g6 := f6 (by simp [haf])
      obtain ⟨px, pa, pn, pc, qx, qa, qn, qc, hsrc, -⟩ := g6
      have e25 := rd HA.out 25 (by kernel_rfl) hsrc
      have e4 : A.tmps[4]? = some (.pointer (some ⟨w.heap.size + 1 + 1, 0, none⟩)) := by rw [HA.out]; kernel_rfl
      simp only [hlk, cond_false] at rR
      obtain ⟨cs, hcs, hblk⟩ := rR
      injection hcs with hcs
      subst hcs
      obtain ⟨c0, c1, c2, c3⟩ := hblk.four
      obtain ⟨q0, q1, q2, q3⟩ := hblk.frozen4
      refine ⟨?_⟩
      go_simp
      have hk := keepI_four (noI_slice _ _ _) (noI_slice _ _ _) hblk px pa pn pc qx qa qn qc
      refine hK U _ _ ?_ ?_
      · exact HA.out
      · exact ⟨(below_store4 fb geR _ _ _ _), (fk.trans hk), (by simpa using fs), (oA.other4 neRA _ _ _ _), (oB.other4 neRB _ _ _ _), (oG.other4 neRG _ _ _ _), (stored_old hsrc (hblk.over4 _ _ _ _)), (mv mo_is hk f0), (mv mo_is hk f1), (mv mo_int hk f2), (mv mo_is hk f3), (mv mo_is hk f4), (mv mo_int hk f5), (mv mo_rat hk f6), (mv mo_is hk f8), (fun _ => by simp [haf])⟩
    refine StepsU.run rfl ?_ StepsU.nil
    · intro L U wr hF hlk haf A K hA hK
      have HA : Hid (A = putAll _ _ U) := hA
      clear hA
      simp [Aft, Region.binds] at haf
      obtain ⟨fb, fk, fs, oA, oB, oG, rR, f0, f1, f2, f3, f4, f5, f6, f8, s7⟩ := hF
      refine ⟨?_⟩
      go_simp
      refine hK (upd U 5 (.int .i64 0)) _ _ ?_ ?_
      · rw [HA.out]; kernel_rfl
      · exact ⟨fb, fk, fs, oA, oB, oG, rR, f0, f1, f2, f3, f4, f5, f6, (fun _ => rfl), s7⟩
  intro L U wr hall hF
  obtain ⟨fb, fk, fs, oA, oB, oG, rR, f0, f1, f2, f3, f4, f5, f6, f8, s7⟩ := hF
  clear s7
  have g0 := f0 (hall 0 (by decide))
  have g1 := f1 (hall 1 (by decide))
  have g2 := f2 (hall 2 (by decide))
  have g3 := f3 (hall 3 (by decide))
  have g4 := f4 (hall 4 (by decide))
  have g5 := f5 (hall 5 (by decide))
  have g6 := f6 (hall 6 (by decide))
  have g8 := f8 (hall 8 (by decide))
  rw [hall 7 (by decide), cond_true] at rR
  clear hall f0 f1 f2 f3 f4 f5 f6 f8
  replace ltA := Nat.lt_of_lt_of_le ltA fs
  replace ltB := Nat.lt_of_lt_of_le ltB fs
  replace ltG := Nat.lt_of_lt_of_le ltG fs
  replace ltR := Nat.lt_of_lt_of_le ltR fs
  simp only [setM_some, setM_none, setM_nil]
  obtain ⟨cs, hcs, B⟩ := rR
  obtain ⟨px, pa, pn, pc, qx, qa, qn, qc, hv, hq⟩ := g6
  rw [hv] at hcs
  injection hcs with hcs
  subst hcs
  obtain ⟨r0, r1, r2, r3⟩ := B.four
  have g8' : U 5 = _ := g8
  go_wp2
  refine bodyPost_ret (v := .tuple #[.agg #[.bool px, .slice pa pn pc, .bool qx, .slice qa qn qc], .int .i64 0]) (by simp [results, Try.results15, go_sem, r0, r1, r2, r3, g8']) rfl ?_
  exact ⟨_, _, _, _, _, _, _, _, rfl, hq, fb⟩

set_option maxHeartbeats 4000000 in
theorem of_neg (va vb : Value) (x y : Int) (w : World) (ha : AInt w va x) (hb : AInt w vb y) (hy : y < 0) :
    Calls Try.prog 15 #[va, vb] w fun e w' => ∃ x1 a1 n1 c1 y1 e1 m1 f1, e = .returned (.tuple #[.agg #[.bool x1, .slice a1 n1 c1, .bool y1, .slice e1 m1 f1], .int .i64 0]) ∧ QP w' x1 a1 n1 c1 y1 e1 m1 f1 (Rat.divInt x y) ∧ Below w.heap.size w w' := by
  obtain ⟨na, ao, n, cap, rfl⟩ := ha.shape
  obtain ⟨nb, bo, m, cap', rfl⟩ := hb.shape
  have A0 := ((Blk.new w 25 #[.bool na, .slice ao n cap]).alloc (.cells #[.bool nb, .slice bo m cap'] 25 (0, 0))).alloc (.cells #[.bool false, .slice none 0 0, .bool false, .slice none 0 0] 27 (0, 0))
  have B0 := (Blk.new (w.alloc (.cells #[.bool na, .slice ao n cap] 25 (0, 0))) 25 #[.bool nb, .slice bo m cap']).alloc (.cells #[.bool false, .slice none 0 0, .bool false, .slice none 0 0] 27 (0, 0))
  have R0 := Blk.new ((w.alloc (.cells #[.bool na, .slice ao n cap] 25 (0, 0))).alloc (.cells #[.bool nb, .slice bo m cap'] 25 (0, 0))) 27 #[.bool false, .slice none 0 0, .bool false, .slice none 0 0]
  simp only [World.size_alloc] at B0 R0
  have hbw0 : Below w.heap.size w (((w.alloc (.cells #[.bool na, .slice ao n cap] 25 (0, 0))).alloc (.cells #[.bool nb, .slice bo m cap'] 25 (0, 0))).alloc (.cells #[.bool false, .slice none 0 0, .bool false, .slice none 0 0] 27 (0, 0))) := by go_grown
  have ha1 := ha.below hbw0
  have hb1 := hb.below hbw0
  have HS : Hid (y.sign = -1) := Int.sign_eq_neg_one_of_neg hy
  have HY : Hid (y < 0) := hy
  clear hy
  go_enter Try.func15, Try.ntmps15
  go_wp2_with fail
  refine (sgn_h _ y (-1) _ hb1 HS.out).mono ?_
  rintro e w1 ⟨rfl, hv1⟩
  have A1 := A0.stay hv1
  have B1 := B0.stay hv1
  have R1 := R0.stay hv1
  have hbw1 := hbw0.step hv1 (Nat.le_refl _)
  have ha2 := ha1.below hv1
  have hb2 := hb1.below hv1
  obtain ⟨a0, a1, -, -⟩ := A1.two
  obtain ⟨b0, b1, -, -⟩ := B1.two
  clear A0 B0 R0 hbw0 ha1 hb1 hv1
  go_wp2_with fail
  refine (gcd_h _ _ x y _ _ ha2 hb2 rfl).mono ?_
  rintro e w2 ⟨ng, go, ln, cg, rfl, hg2, hv2⟩
  have hvg := below_new w2 (.cells #[.bool ng, .slice go ln cg] 25 (0, 0))
  have A2 := (A1.stay hv2).stay hvg
  have B2 := (B1.stay hv2).stay hvg
  have R2 := (R1.stay hv2).stay hvg
  have G2 := Blk.new w2 25 #[.bool ng, .slice go ln cg]
  have hbw2 := (hbw1.step hv2 (Nat.le_refl _)).step hvg (Nat.le_refl _)
  have ha3 := (ha2.below hv2).below hvg
  have hb3 := (hb2.below hv2).below hvg
  have hg3 := hg2.below hvg
  have l1 := (R1.stay hv2).lt
  clear a0 a1 b0 b1
  obtain ⟨b0, b1, -, -⟩ := B2.two
  clear A1 B1 R1 hbw1 ha2 hb2 hv2 hg2 hvg
  go_wp2_with fail
  refine (sgn_h _ y (-1) _ hb3 HS.out).mono ?_
  rintro e w3 ⟨rfl, hv3⟩
  have A3 := A2.stay hv3
  have B3 := B2.stay hv3
  have R3 := R2.stay hv3
  have G3 := G2.stay hv3
  have hbw3 := hbw2.step hv3 (Nat.le_refl _)
  have ha4 := ha3.below hv3
  have hb4 := hb3.below hv3
  have hg4 := hg3.below hv3
  clear b0 b1
  obtain ⟨g0, g1, -, -⟩ := G3.two
  clear A2 B2 R2 G2 hbw2 ha3 hb3 hg3 hv3
  go_wp2_with fail
  refine (neg_any _ _ _ hg4).mono ?_
  rintro e w4 ⟨v4, rfl, hn4, hv4⟩
  obtain ⟨nk, ko, lk, ck, rfl⟩ := hn4.shape
  have A4 := A3.stay hv4
  have B4 := B3.stay hv4
  have R4 := R3.stay hv4
  have G4 := G3.stay hv4
  have hbw4 := hbw3.step hv4 (Nat.le_refl _)
  have ha5 := ha4.below hv4
  have hb5 := hb4.below hv4
  clear g0 g1
  obtain ⟨g0, g1, gf0, gf1⟩ := G4.two
  clear A3 B3 R3 G3 hbw3 ha4 hb4 hg4 hv4
  have kG := keepI_two G4 nk ko lk ck
  have oA := A4.other2 (show w2.heap.size ≠ w.heap.size by omega) (.bool nk) (.slice ko lk ck)
  have oB := B4.other2 (show w2.heap.size ≠ w.heap.size + 1 by omega) (.bool nk) (.slice ko lk ck)
  have rR := R4.other2 (show w2.heap.size ≠ w.heap.size + 1 + 1 by omega) (.bool nk) (.slice ko lk ck)
  have oG := G4.over2 (.bool nk) (.slice ko lk ck)
  have hbw := below_store2 hbw4 (show w.heap.size ≤ w2.heap.size by omega) (.bool nk) (.slice ko lk ck)
  have hA := ha5.keepI kG
  have hB := hb5.keepI kG
  have hG := hn4.keepI kG
  clear A4 B4 R4 hbw4 ha5 hb5 hn4 kG
  go_wp2
  generalize ((w4.setCell ⟨w2.heap.size, 0, none⟩ (.bool nk)).setCell ⟨w2.heap.size, 1, none⟩ (.slice ko lk ck)) = W at oA oB rR oG hbw hA hB hG ⊢
  clear G4 g0 g1 gf0 gf1
  have ltA := oA.lt
  have ltB := oB.lt
  have ltG := oG.lt
  have ltR := rR.lt
  have geR : w.heap.size ≤ w.heap.size + 1 + 1 := by omega
  have neRA : w.heap.size + 1 + 1 ≠ w.heap.size := by omega
  have neRB : w.heap.size + 1 + 1 ≠ w.heap.size + 1 := by omega
  have neRG : w.heap.size + 1 + 1 ≠ w2.heap.size := by omega
  have HG0 : Hid ((-((Int.gcd x y : Nat) : Int)) ≠ 0) := by
    show _ ≠ _
    have := gcdz_pos (a := x) (b := y) (by have := HY.out; omega)
    omega
  have HP : Hid ((Rat.divInt x y).num = x.fdiv (-((Int.gcd x y : Nat) : Int)) ∧ ((Rat.divInt x y).den : Int) = y.fdiv (-((Int.gcd x y : Nat) : Int))) := divInt_parts_neg HY.out
  refine wp_region_M (by kernel_rfl) [5, 19, 20, 21, 22, 23, 24, 25] [none, none, none, none, none, some 5, none, none, none, none, none, none, none, none, none, none, none, none, none, some 19, some 20, some 21, some 22, some 23, some 24, some 25] (fun U => by kernel_rfl) (fun L U wr => Below w.heap.size w wr ∧ KeepI W wr ∧ W.heap.size ≤ wr.heap.size ∧ Blk 25 wr (w.heap.size) #[.bool na, .slice ao n cap] ∧ Blk 25 wr (w.heap.size + 1) #[.bool nb, .slice bo m cap'] ∧ Blk 25 wr (w2.heap.size) #[.bool nk, .slice ko lk ck] ∧ BlkV 27 wr (w.heap.size + 1 + 1) (bif L 7 then U 25 else .agg #[.bool false, .slice none 0 0, .bool false, .slice none 0 0]) ∧ (L 0 = true → IS (.agg #[.bool na, .slice ao n cap]) (U 19) wr) ∧ (L 1 = true → IS (.agg #[.bool nk, .slice ko lk ck]) (U 20) wr) ∧ (L 2 = true → INT (x.fdiv (-((Int.gcd x y : Nat) : Int))) (U 21) wr) ∧ (L 3 = true → IS (.agg #[.bool nb, .slice bo m cap']) (U 22) wr) ∧ (L 4 = true → IS (.agg #[.bool nk, .slice ko lk ck]) (U 23) wr) ∧ (L 5 = true → INT (y.fdiv (-((Int.gcd x y : Nat) : Int))) (U 24) wr) ∧ (L 6 = true → RAT (Rat.divInt x y) (U 25) wr) ∧ (L 8 = true → IS (.int .i64 0) (U 5) wr) ∧ (L 7 = true → L 6 = true)) (by kernel_rfl) ?_ ?_ ?_
  · exact fun U => ⟨hbw.drew, KeepI.below (Below.refl _ _).drew, Nat.le_refl _, oA.drew, oB.drew, oG.drew, ⟨_, rfl, rR.drew⟩, (fun h => by cases h), (fun h => by cases h), (fun h => by cases h), (fun h => by cases h), (fun h => by cases h), (fun h => by cases h), (fun h => by cases h), (fun h => by cases h), (fun h => by cases h)⟩
  · refine StepsU.run rfl ?_ ?_
    · intro L U wr hF hlk haf A K hA hK
      have HA : Hid (A = putAll _ _ U) := hA
      clear hA
      simp [Aft, Region.binds] at haf
      obtain ⟨fb, fk, fs, oA, oB, oG, rR, f0, f1, f2, f3, f4, f5, f6, f8, s7⟩ := hF
      have e2 : A.tmps[2]? = some (.pointer (some ⟨w.heap.size, 0, none⟩)) := by rw [HA.out]; kernel_rfl
      obtain ⟨c0, c1, -, -⟩ := oA.two
      refine ⟨?_⟩
      go_simp
      refine hK (upd U 19 (.agg #[.bool na, .slice ao n cap])) _ _ ?_ ?_
      · rw [HA.out]; kernel_rfl
      · exact ⟨fb, fk, fs, oA, oB, oG, rR, (fun _ => rfl), f1, f2, f3, f4, f5, f6, f8, s7⟩
    refine StepsU.run rfl ?_ ?_
    · intro L U wr hF hlk haf A K hA hK
      have HA : Hid (A = putAll _ _ U) := hA
      clear hA
      simp [Aft, Region.binds] at haf
      obtain ⟨fb, fk, fs, oA, oB, oG, rR, f0, f1, f2, f3, f4, f5, f6, f8, s7⟩ := hF
      have e6 : A.tmps[6]? = some (.pointer (some ⟨w2.heap.size, 0, none⟩)) := by rw [HA.out]; kernel_rfl
      obtain ⟨c0, c1, -, -⟩ := oG.two
      refine ⟨?_⟩
      go_simp
      refine hK (upd U 20 (.agg #[.bool nk, .slice ko lk ck])) _ _ ?_ ?_
      · rw [HA.out]; kernel_rfl
      · exact ⟨fb, fk, fs, oA, oB, oG, rR, f0, (fun _ => rfl), f2, f3, f4, f5, f6, f8, s7⟩
    refine StepsU.run rfl ?_ ?_
    · intro L U wr hF hlk haf A K hA hK
      have HA : Hid (A = putAll _ _ U) := hA
      clear hA
      simp [Aft, Region.binds] at haf
      obtain ⟨fb, fk, fs, oA, oB, oG, rR, f0, f1, f2, f3, f4, f5, f6, f8, s7⟩ := hF
      have g0 := f0 (by simp [haf])
      have e19 := rd HA.out 19 (by kernel_rfl) g0
      have g1 := f1 (by simp [haf])
      have e20 := rd HA.out 20 (by kernel_rfl) g1
      refine ⟨?_⟩
      go_simp
      refine (quotient_any _ _ x (-((Int.gcd x y : Nat) : Int)) _ _ (hA.keepI fk) (hG.keepI fk) HG0.out rfl).mono ?_
      rintro e w1 ⟨s6, a6, n6, c6, rfl, hr, hb⟩
      go_simp
      refine hK (upd U 21 (.agg #[.bool s6, .slice a6 n6 c6])) _ _ ?_ ?_
      · rw [HA.out]; kernel_rfl
      · exact ⟨(fb.step hb (Nat.le_refl _)), (fk.trans (KeepI.below hb)), (Nat.le_trans fs hb.size), (oA.stay hb), (oB.stay hb), (oG.stay hb), (rR.stay hb), (mv mo_is (KeepI.below hb) f0), (mv mo_is (KeepI.below hb) f1), (fun _ => hr), (mv mo_is (KeepI.below hb) f3), (mv mo_is (KeepI.below hb) f4), (mv mo_int (KeepI.below hb) f5), (mv mo_rat (KeepI.below hb) f6), (mv mo_is (KeepI.below hb) f8), s7⟩
    refine StepsU.run rfl ?_ ?_
    · intro L U wr hF hlk haf A K hA hK
      have HA : Hid (A = putAll _ _ U) := hA
      clear hA
      simp [Aft, Region.binds] at haf
      obtain ⟨fb, fk, fs, oA, oB, oG, rR, f0, f1, f2, f3, f4, f5, f6, f8, s7⟩ := hF
      have e3 : A.tmps[3]? = some (.pointer (some ⟨w.heap.size + 1, 0, none⟩)) := by rw [HA.out]; kernel_rfl
      obtain ⟨c0, c1, -, -⟩ := oB.two
      refine ⟨?_⟩
      go_simp
      refine hK (upd U 22 (.agg #[.bool nb, .slice bo m cap'])) _ _ ?_ ?_
      · rw [HA.out]; kernel_rfl
      · exact ⟨fb, fk, fs, oA, oB, oG, rR, f0, f1, f2, (fun _ => rfl), f4, f5, f6, f8, s7⟩
    refine StepsU.run rfl ?_ ?_
    · intro L U wr hF hlk haf A K hA hK
      have HA : Hid (A = putAll _ _ U) := hA
      clear hA
      simp [Aft, Region.binds] at haf
      obtain ⟨fb, fk, fs, oA, oB, oG, rR, f0, f1, f2, f3, f4, f5, f6, f8, s7⟩ := hF
      have e6 : A.tmps[6]? = some (.pointer (some ⟨w2.heap.size, 0, none⟩)) := by rw [HA.out]; kernel_rfl
      obtain ⟨c0, c1, -, -⟩ := oG.two
      refine ⟨?_⟩
      go_simp
      refine hK (upd U 23 (.agg #[.bool nk, .slice ko lk ck])) _ _ ?_ ?_
      · rw [HA.out]; kernel_rfl
      · exact ⟨fb, fk, fs, oA, oB, oG, rR, f0, f1, f2, f3, (fun _ => rfl), f5, f6, f8, s7⟩
    refine StepsU.run rfl ?_ ?_
    · intro L U wr hF hlk haf A K hA hK
      have HA : Hid (A = putAll _ _ U) := hA
      clear hA
      simp [Aft, Region.binds] at haf
      obtain ⟨fb, fk, fs, oA, oB, oG, rR, f0, f1, f2, f3, f4, f5, f6, f8, s7⟩ := hF
      have g3 := f3 (by simp [haf])
      have e22 := rd HA.out 22 (by kernel_rfl) g3
      have g4 := f4 (by simp [haf])
      have e23 := rd HA.out 23 (by kernel_rfl) g4
      refine ⟨?_⟩
      go_simp
      refine (quotient_any _ _ y (-((Int.gcd x y : Nat) : Int)) _ _ (hB.keepI fk) (hG.keepI fk) HG0.out rfl).mono ?_
      rintro e w1 ⟨s6, a6, n6, c6, rfl, hr, hb⟩
      go_simp
      refine hK (upd U 24 (.agg #[.bool s6, .slice a6 n6 c6])) _ _ ?_ ?_
      · rw [HA.out]; kernel_rfl
      · exact ⟨(fb.step hb (Nat.le_refl _)), (fk.trans (KeepI.below hb)), (Nat.le_trans fs hb.size), (oA.stay hb), (oB.stay hb), (oG.stay hb), (rR.stay hb), (mv mo_is (KeepI.below hb) f0), (mv mo_is (KeepI.below hb) f1), (mv mo_int (KeepI.below hb) f2), (mv mo_is (KeepI.below hb) f3), (mv mo_is (KeepI.below hb) f4), (fun _ => hr), (mv mo_rat (KeepI.below hb) f6), (mv mo_is (KeepI.below hb) f8), s7⟩
    refine StepsU.run rfl ?_ ?_
    · intro L U wr hF hlk haf A K hA hK
      have HA : Hid (A = putAll _ _ U) := hA
      clear hA
      simp [Aft, Region.binds] at haf
      obtain ⟨fb, fk, fs, oA, oB, oG, rR, f0, f1, f2, f3, f4, f5, f6, f8, s7⟩ := hF
      have g2 := f2 (by simp [haf])
      have e21 := rd HA.out 21 (by kernel_rfl) rfl
      have g5 := f5 (by simp [haf])
      have e24 := rd HA.out 24 (by kernel_rfl) rfl
      refine ⟨?_⟩
      go_simp
      refine (lowest_any _ _ _ _ (Rat.divInt x y) _ g2 g5 HP.out.1 HP.out.2).mono ?_
      rintro e w1 ⟨j1, j2, j3, j4, j5, j6, j7, j8, rfl, hr, hb⟩
      go_simp
      have hs7 : L 7 = false := by cases h : L 7 with | false => rfl | true => rw [s7 h] at hlk; cases hlk
      refine hK (upd U 25 (.agg #[.bool j1, .slice j2 j3 j4, .bool j5, .slice j6 j7 j8])) _ _ ?_ ?_
      · rw [HA.out]; kernel_rfl
      · exact ⟨(fb.step hb (Nat.le_refl _)), (fk.trans (KeepI.below hb)), (Nat.le_trans fs hb.size), (oA.stay hb), (oB.stay hb), (oG.stay hb), (flip_v (P := fun v => BlkV _ _ _ v) hs7 (rR.stay hb)), (mv mo_is (KeepI.below hb) f0), (mv mo_is (KeepI.below hb) f1), (mv mo_int (KeepI.below hb) f2), (mv mo_is (KeepI.below hb) f3), (mv mo_is (KeepI.below hb) f4), (mv mo_int (KeepI.below hb) f5), (fun _ => hr.val), (mv mo_is (KeepI.below hb) f8), (fun _ => rfl)⟩
    refine StepsU.run rfl ?_ ?_
    · intro L U wr hF hlk haf A K hA hK
      have HA : Hid (A = putAll _ _ U) := hA
      clear hA
      simp [Aft, Region.binds] at haf
      obtain ⟨fb, fk, fs, oA, oB, oG, rR, f0, f1, f2, f3, f4, f5, f6, f8, s7⟩ := hF
      have g6 := f6 (by simp [haf])
      obtain ⟨px, pa, pn, pc, qx, qa, qn, qc, hsrc, -⟩ := g6
      have e25 := rd HA.out 25 (by kernel_rfl) hsrc
      have e4 : A.tmps[4]? = some (.pointer (some ⟨w.heap.size + 1 + 1, 0, none⟩)) := by rw [HA.out]; kernel_rfl
      simp only [hlk, cond_false] at rR
      obtain ⟨cs, hcs, hblk⟩ := rR
      injection hcs with hcs
      subst hcs
      obtain ⟨c0, c1, c2, c3⟩ := hblk.four
      obtain ⟨q0, q1, q2, q3⟩ := hblk.frozen4
      refine ⟨?_⟩
      go_simp
      have hk := keepI_four (noI_slice _ _ _) (noI_slice _ _ _) hblk px pa pn pc qx qa qn qc
      refine hK U _ _ ?_ ?_
      · exact HA.out
      · exact ⟨(below_store4 fb geR _ _ _ _), (fk.trans hk), (by simpa using fs), (oA.other4 neRA _ _ _ _), (oB.other4 neRB _ _ _ _), (oG.other4 neRG _ _ _ _), (stored_old hsrc (hblk.over4 _ _ _ _)), (mv mo_is hk f0), (mv mo_is hk f1), (mv mo_int hk f2), (mv mo_is hk f3), (mv mo_is hk f4), (mv mo_int hk f5), (mv mo_rat hk f6), (mv mo_is hk f8), (fun _ => by simp [haf])⟩
    refine StepsU.run rfl ?_ StepsU.nil
    · intro L U wr hF hlk haf A K hA hK
      have HA : Hid (A = putAll _ _ U) := hA
      clear hA
      simp [Aft, Region.binds] at haf
      obtain ⟨fb, fk, fs, oA, oB, oG, rR, f0, f1, f2, f3, f4, f5, f6, f8, s7⟩ := hF
      refine ⟨?_⟩
      go_simp
      refine hK (upd U 5 (.int .i64 0)) _ _ ?_ ?_
      · rw [HA.out]; kernel_rfl
      · exact ⟨fb, fk, fs, oA, oB, oG, rR, f0, f1, f2, f3, f4, f5, f6, (fun _ => rfl), s7⟩
  intro L U wr hall hF
  obtain ⟨fb, fk, fs, oA, oB, oG, rR, f0, f1, f2, f3, f4, f5, f6, f8, s7⟩ := hF
  clear s7
  have g0 := f0 (hall 0 (by decide))
  have g1 := f1 (hall 1 (by decide))
  have g2 := f2 (hall 2 (by decide))
  have g3 := f3 (hall 3 (by decide))
  have g4 := f4 (hall 4 (by decide))
  have g5 := f5 (hall 5 (by decide))
  have g6 := f6 (hall 6 (by decide))
  have g8 := f8 (hall 8 (by decide))
  rw [hall 7 (by decide), cond_true] at rR
  clear hall f0 f1 f2 f3 f4 f5 f6 f8
  replace ltA := Nat.lt_of_lt_of_le ltA fs
  replace ltB := Nat.lt_of_lt_of_le ltB fs
  replace ltG := Nat.lt_of_lt_of_le ltG fs
  replace ltR := Nat.lt_of_lt_of_le ltR fs
  simp only [setM_some, setM_none, setM_nil]
  obtain ⟨cs, hcs, B⟩ := rR
  obtain ⟨px, pa, pn, pc, qx, qa, qn, qc, hv, hq⟩ := g6
  rw [hv] at hcs
  injection hcs with hcs
  subst hcs
  obtain ⟨r0, r1, r2, r3⟩ := B.four
  have g8' : U 5 = _ := g8
  go_wp2
  refine bodyPost_ret (v := .tuple #[.agg #[.bool px, .slice pa pn pc, .bool qx, .slice qa qn qc], .int .i64 0]) (by simp [results, Try.results15, go_sem, r0, r1, r2, r3, g8']) rfl ?_
  exact ⟨_, _, _, _, _, _, _, _, rfl, hq, fb⟩

/-- The code of a quotient. -/
def qc0 (y : Int) : Int := if y = 0 then 12 else 0
theorem of_any (va vb : Value) (x y : Int) (w : World) (ha : AInt w va x) (hb : AInt w vb y) :
    Calls Try.prog 15 #[va, vb] w fun e w' => ∃ x1 a1 n1 c1 y1 e1 m1 f1, e = .returned (.tuple #[.agg #[.bool x1, .slice a1 n1 c1, .bool y1, .slice e1 m1 f1], .int .i64 (qc0 y)]) ∧ QP w' x1 a1 n1 c1 y1 e1 m1 f1 (Rat.divInt x y) ∧ Below w.heap.size w w' := by
  unfold qc0
  rcases Int.lt_trichotomy y 0 with h | h | h
  · rw [if_neg (by omega)]; exact of_neg va vb x y w ha hb h
  · subst h; rw [if_pos rfl, Rat.divInt_zero]; exact of_zero va vb x w ha hb
  · rw [if_neg (by omega)]; exact of_pos va vb x y w ha hb h

end Go.Proofs.Ytidpbdhhbeaijaa
