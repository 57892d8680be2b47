/- Joined: Q3, Q4, Q9, Q10: words and contracts; no statement of the seat is proved here. -/
import Derived.Test.YtidpbdhhbeaijabJoin13Folds
import Derived.Defers
import Derived.Recover
/- Contracts of ratio's Floor, Ceil and Of; they prove no statement of the seat. -/
namespace Go.Proofs.Ytidpbdhhbeaijab
open Go.RowKit

theorem QV.keepI {w w' : World} {v : Value} {q : Rat} (h : QV w v q) (hk : KeepI w w') : QV w' v q := by
  obtain ⟨x, a, n, c, y, e, m, f, rfl, h⟩ := h
  exact (h.keepI hk).val
theorem den_ne (q : Rat) : (q.den : Int) ≠ 0 := by have := q.den_nz; omega

set_option maxHeartbeats 2000000 in
theorem floor_any (v : Value) (q : Rat) (z : Int) (w : World) (hv : QV w v q) (hz' : q.floor = z) :
    Calls Try.prog 24 #[v] w fun e w' => ∃ s a n c, e = .returned (.agg #[.bool s, .slice a n c]) ∧ AInt w' (.agg #[.bool s, .slice a n c]) (z) ∧ Below w.heap.size w w' := by
  obtain ⟨x, a, n, c, y, e', m, f, rfl, h⟩ := hv
  have HZ : Hid (q.num.fdiv q.den = z) := (floor_is q).trans hz'
  clear hz'
  have oX := (Blk.new w 27 #[.bool x, .slice a n c, .bool y, .slice e' m f]).alloc (.cells #[.bool false, .slice none 0 0] 25 (0, 0))
  have rR := Blk.new (w.alloc (.cells #[.bool x, .slice a n c, .bool y, .slice e' m f] 27 (0, 0))) 25 #[.bool false, .slice none 0 0]
  simp only [World.size_alloc] at rR
  have hbw : Below w.heap.size w ((w.alloc (.cells #[.bool x, .slice a n c, .bool y, .slice e' m f] 27 (0, 0))).alloc (.cells #[.bool false, .slice none 0 0] 25 (0, 0))) := by go_grown
  have h1 := h.below hbw
  go_enter Try.func24, Try.ntmps24
  go_wp2
  generalize ((w.alloc (.cells #[.bool x, .slice a n c, .bool y, .slice e' m f] 27 (0, 0))).alloc (.cells #[.bool false, .slice none 0 0] 25 (0, 0))) = W at oX rR hbw h1 ⊢
  have ltX := oX.lt
  have ltR := rR.lt
  have geR : w.heap.size ≤ w.heap.size + 1 := Nat.le_succ _
  have neRX : w.heap.size + 1 ≠ w.heap.size := Nat.succ_ne_self _
  refine wp_region_M (by kernel_rfl) [3, 4, 5, 6, 7] [none, none, none, some 3, some 4, some 5, some 6, some 7] (fun U => by kernel_rfl) (fun L U wr => Below w.heap.size w wr ∧ KeepI W wr ∧ W.heap.size ≤ wr.heap.size ∧ Blk 27 wr (w.heap.size) #[.bool x, .slice a n c, .bool y, .slice e' m f] ∧ BlkV 25 wr (w.heap.size + 1) (bif L 5 then U 7 else .agg #[.bool false, .slice none 0 0]) ∧ (L 0 = true → IS (.pointer (some ⟨w.heap.size, 0, none⟩)) (U 3) wr) ∧ (L 1 = true → IS (.agg #[.bool x, .slice a n c]) (U 4) wr) ∧ (L 2 = true → IS (.agg #[.bool x, .slice a n c, .bool y, .slice e' m f]) (U 5) wr) ∧ (L 3 = true → INT (q.den : Int) (U 6) wr) ∧ (L 4 = true → INT z (U 7) wr) ∧ (L 5 = true → L 4 = true)) (by kernel_rfl) ?_ ?_ ?_
  · exact fun U => ⟨hbw.drew, KeepI.below (Below.refl _ _).drew, Nat.le_refl _, oX.drew, ⟨_, rfl, rR.drew⟩, (fun h => by cases h), (fun h => by cases h), (fun h => by cases h), (fun h => by cases h), (fun h => by cases h), (fun h => by cases h)⟩
  · refine StepsU.run rfl ?_ ?_
    · intro L U wr hF hlk haf A K hA hK
      have HA : Hid (A = putAll _ _ U) := hA
      clear hA
      simp [Aft, Region.binds] at haf
      obtain ⟨fb, fk, fs, oX, rR, f0, f1, f2, f3, f4, s5⟩ := hF
      have e1 : A.tmps[1]? = some (.pointer (some ⟨w.heap.size, 0, none⟩)) := by rw [HA.out]; kernel_rfl
      refine ⟨?_⟩
      go_simp
      refine hK (upd U 3 (.pointer (some ⟨w.heap.size, 0, none⟩))) _ _ ?_ ?_
      · rw [HA.out]; kernel_rfl
      · exact ⟨fb, fk, fs, oX, rR, (fun _ => rfl), f1, f2, f3, f4, s5⟩
    refine StepsU.run rfl ?_ ?_
    · intro L U wr hF hlk haf A K hA hK
      have HA : Hid (A = putAll _ _ U) := hA
      clear hA
      simp [Aft, Region.binds] at haf
      obtain ⟨fb, fk, fs, oX, rR, f0, f1, f2, f3, f4, s5⟩ := hF
      have g0 := f0 (by simp [haf])
      have e3 := rd HA.out 3 (by kernel_rfl) g0
      obtain ⟨c0, c1, c2, c3⟩ := oX.four
      refine ⟨?_⟩
      go_simp
      refine hK (upd U 4 (.agg #[.bool x, .slice a n c])) _ _ ?_ ?_
      · rw [HA.out]; kernel_rfl
      · exact ⟨fb, fk, fs, oX, rR, f0, (fun _ => rfl), f2, f3, f4, s5⟩
    refine StepsU.run rfl ?_ ?_
    · intro L U wr hF hlk haf A K hA hK
      have HA : Hid (A = putAll _ _ U) := hA
      clear hA
      simp [Aft, Region.binds] at haf
      obtain ⟨fb, fk, fs, oX, rR, f0, f1, f2, f3, f4, s5⟩ := hF
      have e1 : A.tmps[1]? = some (.pointer (some ⟨w.heap.size, 0, none⟩)) := by rw [HA.out]; kernel_rfl
      obtain ⟨c0, c1, c2, c3⟩ := oX.four
      refine ⟨?_⟩
      go_simp
      refine hK (upd U 5 (.agg #[.bool x, .slice a n c, .bool y, .slice e' m f])) _ _ ?_ ?_
      · rw [HA.out]; kernel_rfl
      · exact ⟨fb, fk, fs, oX, rR, f0, f1, (fun _ => rfl), f3, f4, s5⟩
    refine StepsU.run rfl ?_ ?_
    · intro L U wr hF hlk haf A K hA hK
      have HA : Hid (A = putAll _ _ U) := hA
      clear hA
      simp [Aft, Region.binds] at haf
      obtain ⟨fb, fk, fs, oX, rR, f0, f1, f2, f3, f4, s5⟩ := hF
      have g2 := f2 (by simp [haf])
      have e5 := rd HA.out 5 (by kernel_rfl) g2
      refine ⟨?_⟩
      go_simp
      refine (den_any _ q _ (h1.val.keepI fk)).mono ?_
      rintro e w1 ⟨s6, a6, n6, c6, rfl, hr, hb⟩
      go_simp
      refine hK (upd U 6 (.agg #[.bool s6, .slice a6 n6 c6])) _ _ ?_ ?_
      · rw [HA.out]; kernel_rfl
      · exact ⟨(fb.step hb (Nat.le_refl _)), (fk.trans (KeepI.below hb)), (Nat.le_trans fs hb.size), (oX.stay hb), (rR.stay hb), (mv mo_is (KeepI.below hb) f0), (mv mo_is (KeepI.below hb) f1), (mv mo_is (KeepI.below hb) f2), (fun _ => hr), (mv mo_int (KeepI.below hb) f4), s5⟩
    refine StepsU.run rfl ?_ ?_
    · intro L U wr hF hlk haf A K hA hK
      have HA : Hid (A = putAll _ _ U) := hA
      clear hA
      simp [Aft, Region.binds] at haf
      obtain ⟨fb, fk, fs, oX, rR, f0, f1, f2, f3, f4, s5⟩ := hF
      have g1 := f1 (by simp [haf])
      have e4 := rd HA.out 4 (by kernel_rfl) g1
      have g3 := f3 (by simp [haf])
      have e6 := rd HA.out 6 (by kernel_rfl) rfl
      refine ⟨?_⟩
      go_simp
      refine (quotient_any _ _ q.num q.den z _ (h1.1.keepI fk) g3 (den_ne q) HZ.out).mono ?_
      rintro e w1 ⟨s7, a7, n7, c7, rfl, hr, hb⟩
      go_simp
      have hs5 : L 5 = false := by cases h : L 5 with | false => rfl | true => rw [s5 h] at hlk; cases hlk
      refine hK (upd U 7 (.agg #[.bool s7, .slice a7 n7 c7])) _ _ ?_ ?_
      · rw [HA.out]; kernel_rfl
      · exact ⟨(fb.step hb (Nat.le_refl _)), (fk.trans (KeepI.below hb)), (Nat.le_trans fs hb.size), (oX.stay hb), (flip_v (P := fun v => BlkV _ _ _ v) hs5 (rR.stay hb)), (mv mo_is (KeepI.below hb) f0), (mv mo_is (KeepI.below hb) f1), (mv mo_is (KeepI.below hb) f2), (mv mo_int (KeepI.below hb) f3), (fun _ => hr), (fun _ => rfl)⟩
    refine StepsU.run rfl ?_ StepsU.nil
    · intro L U wr hF hlk haf A K hA hK
      have HA : Hid (A = putAll _ _ U) := hA
      clear hA
      simp [Aft, Region.binds] at haf
      obtain ⟨fb, fk, fs, oX, rR, f0, f1, f2, f3, f4, s5⟩ := hF
      have g4 := f4 (by simp [haf])
      obtain ⟨px, pa, pn, pc, hsrc⟩ := AInt.shape g4
      have e7 := rd HA.out 7 (by kernel_rfl) hsrc
      have e2 : A.tmps[2]? = some (.pointer (some ⟨w.heap.size + 1, 0, none⟩)) := by rw [HA.out]; kernel_rfl
      simp only [hlk, cond_false] at rR
      obtain ⟨cs, hcs, hblk⟩ := rR
      injection hcs with hcs
      subst hcs
      obtain ⟨c0, c1, q0, q1⟩ := hblk.two
      refine ⟨?_⟩
      go_simp
      have hk := keepI_two hblk px pa pn pc
      refine hK U _ _ ?_ ?_
      · exact HA.out
      · exact ⟨(below_store2 fb geR _ _), (fk.trans hk), (by simpa using fs), (oX.other2 neRX _ _), (stored_old hsrc (hblk.over2 _ _)), (mv mo_is hk f0), (mv mo_is hk f1), (mv mo_is hk f2), (mv mo_int hk f3), (mv mo_int hk f4), (fun _ => by simp [haf])⟩
  intro L U wr hall hF
  obtain ⟨fb, fk, fs, oX, rR, f0, f1, f2, f3, f4, s5⟩ := hF
  clear s5
  have g0 := f0 (hall 0 (by decide))
  have g1 := f1 (hall 1 (by decide))
  have g2 := f2 (hall 2 (by decide))
  have g3 := f3 (hall 3 (by decide))
  have g4 := f4 (hall 4 (by decide))
  rw [hall 5 (by decide), cond_true] at rR
  clear hall f0 f1 f2 f3 f4
  replace ltX := Nat.lt_of_lt_of_le ltX fs
  replace ltR := Nat.lt_of_lt_of_le ltR fs
  simp only [setM_some, setM_none, setM_nil]
  obtain ⟨cs, hcs, B⟩ := rR
  obtain ⟨px, pa, pn, pc, hv⟩ := AInt.shape g4
  rw [hv] at hcs g4
  injection hcs with hcs
  subst hcs
  obtain ⟨r0, r1, -, -⟩ := B.two
  go_wp2
  refine bodyPost_ret (v := .agg #[.bool px, .slice pa pn pc]) (by simp [results, Try.results24, go_sem, r0, r1]) rfl ?_
  exact ⟨_, _, _, _, rfl, g4, fb⟩

set_option maxHeartbeats 2000000 in
theorem ceil_any (v : Value) (q : Rat) (z : Int) (w : World) (hv : QV w v q) (hz' : q.ceil = z) :
    Calls Try.prog 25 #[v] w fun e w' => ∃ s a n c, e = .returned (.agg #[.bool s, .slice a n c]) ∧ AInt w' (.agg #[.bool s, .slice a n c]) (z) ∧ Below w.heap.size w w' := by
  obtain ⟨x, a, n, c, y, e', m, f, rfl, h⟩ := hv
  have HZ : Hid (-((-q).floor) = z) := by show _ = _; rw [← hz', Rat.ceil_eq_neg_floor_neg]
  clear hz'
  have rR := Blk.new (w.alloc (.cells #[.bool x, .slice a n c, .bool y, .slice e' m f] 27 (0, 0))) 25 #[.bool false, .slice none 0 0]
  simp only [World.size_alloc] at rR
  have hbw : Below w.heap.size w ((w.alloc (.cells #[.bool x, .slice a n c, .bool y, .slice e' m f] 27 (0, 0))).alloc (.cells #[.bool false, .slice none 0 0] 25 (0, 0))) := by go_grown
  have h1 := h.below hbw
  go_enter Try.func25, Try.ntmps25
  go_wp2_with fail
  refine (qneg_any _ q _ h1.val).mono ?_
  rintro e w1 ⟨x1, a1, n1, c1, y1, e1, m1, f1, rfl, k1, hb1⟩
  go_wp2_with fail
  refine (floor_any _ (-q) _ _ k1.val rfl).mono ?_
  rintro e w2 ⟨s2, a2, n2, c2, rfl, k2, hb2⟩
  go_wp2_with fail
  refine (neg_any _ _ _ k2).mono ?_
  rintro e w3 ⟨v3, rfl, k3, hb3⟩
  obtain ⟨s3, a3, n3, c3, rfl⟩ := k3.shape
  have R3 := ((rR.stay hb1).stay hb2).stay hb3
  obtain ⟨r0, r1, f0, f1⟩ := R3.two
  go_wp2
  refine bodyPost_ret (v := .agg #[.bool s3, .slice a3 n3 c3]) (by simp [results, Try.results25, go_sem, r0, r1]) rfl ?_
  refine ⟨_, _, _, _, rfl, ?_, below_store2 (((hbw.step hb1 (Nat.le_refl _)).step hb2 (Nat.le_refl _)).step hb3 (Nat.le_refl _)) (Nat.le_succ _) _ _⟩
  rw [HZ.out] at k3
  exact k3.store2 R3 _ _ _ _

set_option maxHeartbeats 2000000 in
theorem of_zero (va vb : Value) (x : Int) (w : World) (ha : AInt w va x) (hb : AInt w vb 0) :
    Calls Try.prog 27 #[va, vb] w fun e w' => ∃ x1 a1 n1 c1 y1 e1 m1 f1, e = .returned (.tuple #[.agg #[.bool x1, .slice a1 n1 c1, .bool y1, .slice e1 m1 f1], .int .i64 12]) ∧ QP w' x1 a1 n1 c1 y1 e1 m1 f1 (0) ∧ Below w.heap.size w w' := by
  obtain ⟨na, ao, n, cap, rfl⟩ := ha.shape
  obtain ⟨nb, bo, m, cap', rfl⟩ := hb.shape
  have A0 := ((Blk.new w 25 #[.bool na, .slice ao n cap]).alloc (.cells #[.bool nb, .slice bo m cap'] 25 (0, 0))).alloc (.cells #[.bool false, .slice none 0 0, .bool false, .slice none 0 0] 27 (0, 0))
  have B0 := (Blk.new (w.alloc (.cells #[.bool na, .slice ao n cap] 25 (0, 0))) 25 #[.bool nb, .slice bo m cap']).alloc (.cells #[.bool false, .slice none 0 0, .bool false, .slice none 0 0] 27 (0, 0))
  have R0 := Blk.new ((w.alloc (.cells #[.bool na, .slice ao n cap] 25 (0, 0))).alloc (.cells #[.bool nb, .slice bo m cap'] 25 (0, 0))) 27 #[.bool false, .slice none 0 0, .bool false, .slice none 0 0]
  simp only [World.size_alloc] at B0 R0
  have hbw0 : Below w.heap.size w (((w.alloc (.cells #[.bool na, .slice ao n cap] 25 (0, 0))).alloc (.cells #[.bool nb, .slice bo m cap'] 25 (0, 0))).alloc (.cells #[.bool false, .slice none 0 0, .bool false, .slice none 0 0] 27 (0, 0))) := by go_grown
  have ha1 := ha.below hbw0
  have hb1 := hb.below hbw0
  go_enter Try.func27, Try.ntmps27
  go_wp2_with fail
  refine (sgn_h _ 0 0 _ hb1 rfl).mono ?_
  rintro e w1 ⟨rfl, hv1⟩
  have R1 := R0.stay hv1
  obtain ⟨r0, r1, r2, r3⟩ := R1.four
  obtain ⟨f0, f1, f2, f3⟩ := R1.frozen4
  go_wp2
  refine bodyPost_ret (v := .tuple #[.agg #[.bool false, .slice none 0 0, .bool false, .slice none 0 0], .int .i64 12]) (by simp [results, Try.results27, go_sem, r0, r1, r2, r3]) rfl ?_
  refine ⟨_, _, _, _, _, _, _, _, rfl, QP.zero, ?_⟩
  first
    | exact below_store4 (hbw0.step hv1 (Nat.le_refl _)) (by omega) _ _ _ _
    | exact hbw0.step hv1 (Nat.le_refl _)

set_option maxHeartbeats 4000000 in
theorem of_pos (va vb : Value) (x y : Int) (w : World) (ha : AInt w va x) (hb : AInt w vb y) (hy : 0 < y) :
    Calls Try.prog 27 #[va, vb] w fun e w' => ∃ x1 a1 n1 c1 y1 e1 m1 f1, e = .returned (.tuple #[.agg #[.bool x1, .slice a1 n1 c1, .bool y1, .slice e1 m1 f1], .int .i64 0]) ∧ QP w' x1 a1 n1 c1 y1 e1 m1 f1 (Rat.divInt x y) ∧ Below w.heap.size w w' := by
  obtain ⟨na, ao, n, cap, rfl⟩ := ha.shape
  obtain ⟨nb, bo, m, cap', rfl⟩ := hb.shape
  have A0 := ((Blk.new w 25 #[.bool na, .slice ao n cap]).alloc (.cells #[.bool nb, .slice bo m cap'] 25 (0, 0))).alloc (.cells #[.bool false, .slice none 0 0, .bool false, .slice none 0 0] 27 (0, 0))
  have B0 := (Blk.new (w.alloc (.cells #[.bool na, .slice ao n cap] 25 (0, 0))) 25 #[.bool nb, .slice bo m cap']).alloc (.cells #[.bool false, .slice none 0 0, .bool false, .slice none 0 0] 27 (0, 0))
  have R0 := Blk.new ((w.alloc (.cells #[.bool na, .slice ao n cap] 25 (0, 0))).alloc (.cells #[.bool nb, .slice bo m cap'] 25 (0, 0))) 27 #[.bool false, .slice none 0 0, .bool false, .slice none 0 0]
  simp only [World.size_alloc] at B0 R0
  have hbw0 : Below w.heap.size w (((w.alloc (.cells #[.bool na, .slice ao n cap] 25 (0, 0))).alloc (.cells #[.bool nb, .slice bo m cap'] 25 (0, 0))).alloc (.cells #[.bool false, .slice none 0 0, .bool false, .slice none 0 0] 27 (0, 0))) := by go_grown
  have ha1 := ha.below hbw0
  have hb1 := hb.below hbw0
  have HS : Hid (y.sign = 1) := Int.sign_eq_one_of_pos hy
  have HY : Hid (0 < y) := hy
  clear hy
  go_enter Try.func27, Try.ntmps27
  go_wp2_with fail
  refine (sgn_h _ y (1) _ hb1 HS.out).mono ?_
  rintro e w1 ⟨rfl, hv1⟩
  have A1 := A0.stay hv1
  have B1 := B0.stay hv1
  have R1 := R0.stay hv1
  have hbw1 := hbw0.step hv1 (Nat.le_refl _)
  have ha2 := ha1.below hv1
  have hb2 := hb1.below hv1
  obtain ⟨a0, a1, -, -⟩ := A1.two
  obtain ⟨b0, b1, -, -⟩ := B1.two
  clear A0 B0 R0 hbw0 ha1 hb1 hv1
  go_wp2_with fail
  refine (gcd_h _ _ x y _ _ ha2 hb2 rfl).mono ?_
  rintro e w2 ⟨ng, go, ln, cg, rfl, hg2, hv2⟩
  have hvg := below_new w2 (.cells #[.bool ng, .slice go ln cg] 25 (0, 0))
  have A2 := (A1.stay hv2).stay hvg
  have B2 := (B1.stay hv2).stay hvg
  have R2 := (R1.stay hv2).stay hvg
  have G2 := Blk.new w2 25 #[.bool ng, .slice go ln cg]
  have hbw2 := (hbw1.step hv2 (Nat.le_refl _)).step hvg (Nat.le_refl _)
  have ha3 := (ha2.below hv2).below hvg
  have hb3 := (hb2.below hv2).below hvg
  have hg3 := hg2.below hvg
  have l1 := (R1.stay hv2).lt
  clear a0 a1 b0 b1
  obtain ⟨b0, b1, -, -⟩ := B2.two
  clear A1 B1 R1 hbw1 ha2 hb2 hv2 hg2 hvg
  go_wp2_with fail
  refine (sgn_h _ y (1) _ hb3 HS.out).mono ?_
  rintro e w3 ⟨rfl, hv3⟩
  have A3 := A2.stay hv3
  have B3 := B2.stay hv3
  have R3 := R2.stay hv3
  have G3 := G2.stay hv3
  have hbw3 := hbw2.step hv3 (Nat.le_refl _)
  have ha4 := ha3.below hv3
  have hb4 := hb3.below hv3
  have hg4 := hg3.below hv3
  clear b0 b1
  obtain ⟨g0, g1, -, -⟩ := G3.two
  clear A2 B2 R2 G2 hbw2 ha3 hb3 hg3 hv3
  have oA := A3
  have oB := B3
  have rR := R3
  have oG := G3
  have hbw := hbw3
  have hA := ha4
  have hB := hb4
  have hG := hg4
  clear A3 B3 R3 hbw3 ha4 hb4 hg4
  go_wp2
  obtain ⟨W, hW⟩ : ∃ W, W = w3 := ⟨_, rfl⟩
  rw [← hW] at oA oB rR oG hbw hA hB hG ⊢
  clear hW G3 g0 g1
  have ltA := oA.lt
  have ltB := oB.lt
  have ltG := oG.lt
  have ltR := rR.lt
  have geR : w.heap.size ≤ w.heap.size + 1 + 1 := by omega
  have neRA : w.heap.size + 1 + 1 ≠ w.heap.size := by omega
  have neRB : w.heap.size + 1 + 1 ≠ w.heap.size + 1 := by omega
  have neRG : w.heap.size + 1 + 1 ≠ w2.heap.size := by omega
  have HG0 : Hid (((Int.gcd x y : Nat) : Int) ≠ 0) := by
    show _ ≠ _
    have := gcdz_pos (a := x) (b := y) (by have := HY.out; omega)
    omega
  have HP : Hid ((Rat.divInt x y).num = x.fdiv ((Int.gcd x y : Nat) : Int) ∧ ((Rat.divInt x y).den : Int) = y.fdiv ((Int.gcd x y : Nat) : Int)) := divInt_parts HY.out
  refine wp_region_M (by kernel_rfl) [5, 19, 20, 21, 22, 23, 24, 25] [none, none, none, none, none, some 5, none, none, none, none, none, none, none, none, none, none, none, none, none, some 19, some 20, some 21, some 22, some 23, some 24, some 25] (fun U => by kernel_rfl) (fun L U wr => Below w.heap.size w wr ∧ KeepI W wr ∧ W.heap.size ≤ wr.heap.size ∧ Blk 25 wr (w.heap.size) #[.bool na, .slice ao n cap] ∧ Blk 25 wr (w.heap.size + 1) #[.bool nb, .slice bo m cap'] ∧ Blk 25 wr (w2.heap.size) #[.bool ng, .slice go ln cg] ∧ BlkV 27 wr (w.heap.size + 1 + 1) (bif L 7 then U 25 else .agg #[.bool false, .slice none 0 0, .bool false, .slice none 0 0]) ∧ (L 0 = true → IS (.agg #[.bool na, .slice ao n cap]) (U 19) wr) ∧ (L 1 = true → IS (.agg #[.bool ng, .slice go ln cg]) (U 20) wr) ∧ (L 2 = true → INT (x.fdiv ((Int.gcd x y : Nat) : Int)) (U 21) wr) ∧ (L 3 = true → IS (.agg #[.bool nb, .slice bo m cap']) (U 22) wr) ∧ (L 4 = true → IS (.agg #[.bool ng, .slice go ln cg]) (U 23) wr) ∧ (L 5 = true → INT (y.fdiv ((Int.gcd x y : Nat) : Int)) (U 24) wr) ∧ (L 6 = true → RAT (Rat.divInt x y) (U 25) wr) ∧ (L 8 = true → IS (.int .i64 0) (U 5) wr) ∧ (L 7 = true → L 6 = true)) (by kernel_rfl) ?_ ?_ ?_
  · exact fun U => ⟨hbw.drew, KeepI.below (Below.refl _ _).drew, Nat.le_refl _, oA.drew, oB.drew, oG.drew, ⟨_, rfl, rR.drew⟩, (fun h => by cases h), (fun h => by cases h), (fun h => by cases h), (fun h => by cases h), (fun h => by cases h), (fun h => by cases h), (fun h => by cases h), (fun h => by cases h), (fun h => by cases h)⟩
  · refine StepsU.run rfl ?_ ?_
    · intro L U wr hF hlk haf A K hA hK
      have HA : Hid (A = putAll _ _ U) := hA
      clear hA
      simp [Aft, Region.binds] at haf
      obtain ⟨fb, fk, fs, oA, oB, oG, rR, f0, f1, f2, f3, f4, f5, f6, f8, s7⟩ := hF
      have e2 : A.tmps[2]? = some (.pointer (some ⟨w.heap.size, 0, none⟩)) := by rw [HA.out]; kernel_rfl
      obtain ⟨c0, c1, -, -⟩ := oA.two
      refine ⟨?_⟩
      go_simp
      refine hK (upd U 19 (.agg #[.bool na, .slice ao n cap])) _ _ ?_ ?_
      · rw [HA.out]; kernel_rfl
      · exact ⟨fb, fk, fs, oA, oB, oG, rR, (fun _ => rfl), f1, f2, f3, f4, f5, f6, f8, s7⟩
    refine StepsU.run rfl ?_ ?_
    · intro L U wr hF hlk haf A K hA hK
      have HA : Hid (A = putAll _ _ U) := hA
      clear hA
      simp [Aft, Region.binds] at haf
      obtain ⟨fb, fk, fs, oA, oB, oG, rR, f0, f1, f2, f3, f4, f5, f6, f8, s7⟩ := hF
      have e6 : A.tmps[6]? = some (.pointer (some ⟨w2.heap.size, 0, none⟩)) := by rw [HA.out]; kernel_rfl
      obtain ⟨c0, c1, -, -⟩ := oG.two
      refine ⟨?_⟩
      go_simp
      refine hK (upd U 20 (.agg #[.bool ng, .slice go ln cg])) _ _ ?_ ?_
      · rw [HA.out]; kernel_rfl
      · exact ⟨fb, fk, fs, oA, oB, oG, rR, f0, (fun _ => rfl), f2, f3, f4, f5, f6, f8, s7⟩
    refine StepsU.run rfl ?_ ?_
    · intro L U wr hF hlk haf A K hA hK
      have HA : Hid (A = putAll _ _ U) := hA
      clear hA
      simp [Aft, Region.binds] at haf
      obtain ⟨fb, fk, fs, oA, oB, oG, rR, f0, f1, f2, f3, f4, f5, f6, f8, s7⟩ := hF
      have g0 := f0 (by simp [haf])
      have e19 := rd HA.out 19 (by kernel_rfl) g0
      have g1 := f1 (by simp [haf])
      have e20 := rd HA.out 20 (by kernel_rfl) g1
      refine ⟨?_⟩
      go_simp
      refine (quotient_any _ _ x ((Int.gcd x y : Nat) : Int) _ _ (hA.keepI fk) (hG.keepI fk) HG0.out rfl).mono ?_
      rintro e w1 ⟨s6, a6, n6, c6, rfl, hr, hb⟩
      go_simp
      refine hK (upd U 21 (.agg #[.bool s6, .slice a6 n6 c6])) _ _ ?_ ?_
      · rw [HA.out]; kernel_rfl
      · exact ⟨(fb.step hb (Nat.le_refl _)), (fk.trans (KeepI.below hb)), (Nat.le_trans fs hb.size), (oA.stay hb), (oB.stay hb), (oG.stay hb), (rR.stay hb), (mv mo_is (KeepI.below hb) f0), (mv mo_is (KeepI.below hb) f1), (fun _ => hr), (mv mo_is (KeepI.below hb) f3), (mv mo_is (KeepI.below hb) f4), (mv mo_int (KeepI.below hb) f5), (mv mo_rat (KeepI.below hb) f6), (mv mo_is (KeepI.below hb) f8), s7⟩
    refine StepsU.run rfl ?_ ?_
    · intro L U wr hF hlk haf A K hA hK
      have HA : Hid (A = putAll _ _ U) := hA
      clear hA
      simp [Aft, Region.binds] at haf
      obtain ⟨fb, fk, fs, oA, oB, oG, rR, f0, f1, f2, f3, f4, f5, f6, f8, s7⟩ := hF
      have e3 : A.tmps[3]? = some (.pointer (some ⟨w.heap.size + 1, 0, none⟩)) := by rw [HA.out]; kernel_rfl
      obtain ⟨c0, c1, -, -⟩ := oB.two
      refine ⟨?_⟩
      go_simp
      refine hK (upd U 22 (.agg #[.bool nb, .slice bo m cap'])) _ _ ?_ ?_
      · rw [HA.out]; kernel_rfl
      · exact ⟨fb, fk, fs, oA, oB, oG, rR, f0, f1, f2, (fun _ => rfl), f4, f5, f6, f8, s7⟩
    refine StepsU.run rfl ?_ ?_
    · intro L U wr hF hlk haf A K hA hK
      have HA : Hid (A = putAll _ _ U) := hA
      clear hA
      simp [Aft, Region.binds] at haf
      obtain ⟨fb, fk, fs, oA, oB, oG, rR, f0, f1, f2, f3, f4, f5, f6, f8, s7⟩ := hF
      have e6 : A.tmps[6]? = some (.pointer (some ⟨w2.heap.size, 0, none⟩)) := by rw [HA.out]; kernel_rfl
      obtain ⟨c0, c1, -, -⟩ := oG.two
      refine ⟨?_⟩
      go_simp
      refine hK (upd U 23 (.agg #[.bool ng, .slice go ln cg])) _ _ ?_ ?_
      · rw [HA.out]; kernel_rfl
      · exact ⟨fb, fk, fs, oA, oB, oG, rR, f0, f1, f2, f3, (fun _ => rfl), f5, f6, f8, s7⟩
    refine StepsU.run rfl ?_ ?_
    · intro L U wr hF hlk haf A K hA hK
      have HA : Hid (A = putAll _ _ U) := hA
      clear hA
      simp [Aft, Region.binds] at haf
      obtain ⟨fb, fk, fs, oA, oB, oG, rR, f0, f1, f2, f3, f4, f5, f6, f8, s7⟩ := hF
      have g3 := f3 (by simp [haf])
      have e22 := rd HA.out 22 (by kernel_rfl) g3
      have g4 := f4 (by simp [haf])
      have e23 := rd HA.out 23 (by kernel_rfl) g4
      refine ⟨?_⟩
      go_simp
      refine (quotient_any _ _ y ((Int.gcd x y : Nat) : Int) _ _ (hB.keepI fk) (hG.keepI fk) HG0.out rfl).mono ?_
      rintro e w1 ⟨s6, a6, n6, c6, rfl, hr, hb⟩
      go_simp
      refine hK (upd U 24 (.agg #[.bool s6, .slice a6 n6 c6])) _ _ ?_ ?_
      · rw [HA.out]; kernel_rfl
      · exact ⟨(fb.step hb (Nat.le_refl _)), (fk.trans (KeepI.below hb)), (Nat.le_trans fs hb.size), (oA.stay hb), (oB.stay hb), (oG.stay hb), (rR.stay hb), (mv mo_is (KeepI.below hb) f0), (mv mo_is (KeepI.below hb) f1), (mv mo_int (KeepI.below hb) f2), (mv mo_is (KeepI.below hb) f3), (mv mo_is (KeepI.below hb) f4), (fun _ => hr), (mv mo_rat (KeepI.below hb) f6), (mv mo_is (KeepI.below hb) f8), s7⟩
    refine StepsU.run rfl ?_ ?_
    · intro L U wr hF hlk haf A K hA hK
      have HA : Hid (A = putAll _ _ U) := hA
      clear hA
      simp [Aft, Region.binds] at haf
      obtain ⟨fb, fk, fs, oA, oB, oG, rR, f0, f1, f2, f3, f4, f5, f6, f8, s7⟩ := hF
      have g2 := f2 (by simp [haf])
      have e21 := rd HA.out 21 (by kernel_rfl) rfl
      have g5 := f5 (by simp [haf])
      have e24 := rd HA.out 24 (by kernel_rfl) rfl
      refine ⟨?_⟩
      go_simp
      refine (lowest_any _ _ _ _ (Rat.divInt x y) _ g2 g5 HP.out.1 HP.out.2).mono ?_
      rintro e w1 ⟨j1, j2, j3, j4, j5, j6, j7, j8, rfl, hr, hb⟩
      go_simp
      have hs7 : L 7 = false := by cases h : L 7 with | false => rfl | true => rw [s7 h] at hlk; cases hlk
      refine hK (upd U 25 (.agg #[.bool j1, .slice j2 j3 j4, .bool j5, .slice j6 j7 j8])) _ _ ?_ ?_
      · rw [HA.out]; kernel_rfl
      · exact ⟨(fb.step hb (Nat.le_refl _)), (fk.trans (KeepI.below hb)), (Nat.le_trans fs hb.size), (oA.stay hb), (oB.stay hb), (oG.stay hb), (flip_v (P := fun v => BlkV _ _ _ v) hs7 (rR.stay hb)), (mv mo_is (KeepI.below hb) f0), (mv mo_is (KeepI.below hb) f1), (mv mo_int (KeepI.below hb) f2), (mv mo_is (KeepI.below hb) f3), (mv mo_is (KeepI.below hb) f4), (mv mo_int (KeepI.below hb) f5), (fun _ => hr.val), (mv mo_is (KeepI.below hb) f8), (fun _ => rfl)⟩
    refine StepsU.run rfl ?_ ?_
    · intro L U wr hF hlk haf A K hA hK
      have HA : Hid (A = putAll _ _ U) := hA
      clear hA
      simp [Aft, Region.binds] at haf
      obtain ⟨fb, fk, fs, oA, oB, oG, rR, f0, f1, f2, f3, f4, f5, f6, f8, s7⟩ := hF
      have g6 := f6 (by simp [haf])
      obtain ⟨px, pa, pn, pc, qx, qa, qn, qc, hsrc, -⟩ := g6
      have e25 := rd HA.out 25 (by kernel_rfl) hsrc
      have e4 : A.tmps[4]? = some (.pointer (some ⟨w.heap.size + 1 + 1, 0, none⟩)) := by rw [HA.out]; kernel_rfl
      simp only [hlk, cond_false] at rR
      obtain ⟨cs, hcs, hblk⟩ := rR
      injection hcs with hcs
      subst hcs
      obtain ⟨c0, c1, c2, c3⟩ := hblk.four
      obtain ⟨q0, q1, q2, q3⟩ := hblk.frozen4
      refine ⟨?_⟩
      go_simp
      have hk := keepI_four (noI_slice _ _ _) (noI_slice _ _ _) hblk px pa pn pc qx qa qn qc
      refine hK U _ _ ?_ ?_
      · exact HA.out
      · exact ⟨(below_store4 fb geR _ _ _ _), (fk.trans hk), (by simpa using fs), (oA.other4 neRA _ _ _ _), (oB.other4 neRB _ _ _ _), (oG.other4 neRG _ _ _ _), (stored_old hsrc (hblk.over4 _ _ _ _)), (mv mo_is hk f0), (mv mo_is hk f1), (mv mo_int hk f2), (mv mo_is hk f3), (mv mo_is hk f4), (mv mo_int hk f5), (mv mo_rat hk f6), (mv mo_is hk f8), (fun _ => by simp [haf])⟩
    refine StepsU.run rfl ?_ StepsU.nil
    · intro L U wr hF hlk haf A K hA hK
      have HA : Hid (A = putAll _ _ U) := hA
      clear hA
      simp [Aft, Region.binds] at haf
      obtain ⟨fb, fk, fs, oA, oB, oG, rR, f0, f1, f2, f3, f4, f5, f6, f8, s7⟩ := hF
      refine ⟨?_⟩
      go_simp
      refine hK (upd U 5 (.int .i64 0)) _ _ ?_ ?_
      · rw [HA.out]; kernel_rfl
      · exact ⟨fb, fk, fs, oA, oB, oG, rR, f0, f1, f2, f3, f4, f5, f6, (fun _ => rfl), s7⟩
  intro L U wr hall hF
  obtain ⟨fb, fk, fs, oA, oB, oG, rR, f0, f1, f2, f3, f4, f5, f6, f8, s7⟩ := hF
  clear s7
  have g0 := f0 (hall 0 (by decide))
  have g1 := f1 (hall 1 (by decide))
  have g2 := f2 (hall 2 (by decide))
  have g3 := f3 (hall 3 (by decide))
  have g4 := f4 (hall 4 (by decide))
  have g5 := f5 (hall 5 (by decide))
  have g6 := f6 (hall 6 (by decide))
  have g8 := f8 (hall 8 (by decide))
  rw [hall 7 (by decide), cond_true] at rR
  clear hall f0 f1 f2 f3 f4 f5 f6 f8
  replace ltA := Nat.lt_of_lt_of_le ltA fs
  replace ltB := Nat.lt_of_lt_of_le ltB fs
  replace ltG := Nat.lt_of_lt_of_le ltG fs
  replace ltR := Nat.lt_of_lt_of_le ltR fs
  simp only [setM_some, setM_none, setM_nil]
  obtain ⟨cs, hcs, B⟩ := rR
  obtain ⟨px, pa, pn, pc, qx, qa, qn, qc, hv, hq⟩ := g6
  rw [hv] at hcs
  injection hcs with hcs
  subst hcs
  obtain ⟨r0, r1, r2, r3⟩ := B.four
  have g8' : U 5 = _ := g8
  go_wp2
  refine bodyPost_ret (v := .tuple #[.agg #[.bool px, .slice pa pn pc, .bool qx, .slice qa qn qc], .int .i64 0]) (by simp [results, Try.results27, go_sem, r0, r1, r2, r3, g8']) rfl ?_
  exact ⟨_, _, _, _, _, _, _, _, rfl, hq, fb⟩

set_option maxHeartbeats 4000000 in
theorem of_neg (va vb : Value) (x y : Int) (w : World) (ha : AInt w va x) (hb : AInt w vb y) (hy : y < 0) :
    Calls Try.prog 27 #[va, vb] w fun e w' => ∃ x1 a1 n1 c1 y1 e1 m1 f1, e = .returned (.tuple #[.agg #[.bool x1, .slice a1 n1 c1, .bool y1, .slice e1 m1 f1], .int .i64 0]) ∧ QP w' x1 a1 n1 c1 y1 e1 m1 f1 (Rat.divInt x y) ∧ Below w.heap.size w w' := by
  obtain ⟨na, ao, n, cap, rfl⟩ := ha.shape
  obtain ⟨nb, bo, m, cap', rfl⟩ := hb.shape
  have A0 := ((Blk.new w 25 #[.bool na, .slice ao n cap]).alloc (.cells #[.bool nb, .slice bo m cap'] 25 (0, 0))).alloc (.cells #[.bool false, .slice none 0 0, .bool false, .slice none 0 0] 27 (0, 0))
  have B0 := (Blk.new (w.alloc (.cells #[.bool na, .slice ao n cap] 25 (0, 0))) 25 #[.bool nb, .slice bo m cap']).alloc (.cells #[.bool false, .slice none 0 0, .bool false, .slice none 0 0] 27 (0, 0))
  have R0 := Blk.new ((w.alloc (.cells #[.bool na, .slice ao n cap] 25 (0, 0))).alloc (.cells #[.bool nb, .slice bo m cap'] 25 (0, 0))) 27 #[.bool false, .slice none 0 0, .bool false, .slice none 0 0]
  simp only [World.size_alloc] at B0 R0
  have hbw0 : Below w.heap.size w (((w.alloc (.cells #[.bool na, .slice ao n cap] 25 (0, 0))).alloc (.cells #[.bool nb, .slice bo m cap'] 25 (0, 0))).alloc (.cells #[.bool false, .slice none 0 0, .bool false, .slice none 0 0] 27 (0, 0))) := by go_grown
  have ha1 := ha.below hbw0
  have hb1 := hb.below hbw0
  have HS : Hid (y.sign = -1) := Int.sign_eq_neg_one_of_neg hy
  have HY : Hid (y < 0) := hy
  clear hy
  go_enter Try.func27, Try.ntmps27
  go_wp2_with fail
  refine (sgn_h _ y (-1) _ hb1 HS.out).mono ?_
  rintro e w1 ⟨rfl, hv1⟩
  have A1 := A0.stay hv1
  have B1 := B0.stay hv1
  have R1 := R0.stay hv1
  have hbw1 := hbw0.step hv1 (Nat.le_refl _)
  have ha2 := ha1.below hv1
  have hb2 := hb1.below hv1
  obtain ⟨a0, a1, -, -⟩ := A1.two
  obtain ⟨b0, b1, -, -⟩ := B1.two
  clear A0 B0 R0 hbw0 ha1 hb1 hv1
  go_wp2_with fail
  refine (gcd_h _ _ x y _ _ ha2 hb2 rfl).mono ?_
  rintro e w2 ⟨ng, go, ln, cg, rfl, hg2, hv2⟩
  have hvg := below_new w2 (.cells #[.bool ng, .slice go ln cg] 25 (0, 0))
  have A2 := (A1.stay hv2).stay hvg
  have B2 := (B1.stay hv2).stay hvg
  have R2 := (R1.stay hv2).stay hvg
  have G2 := Blk.new w2 25 #[.bool ng, .slice go ln cg]
  have hbw2 := (hbw1.step hv2 (Nat.le_refl _)).step hvg (Nat.le_refl _)
  have ha3 := (ha2.below hv2).below hvg
  have hb3 := (hb2.below hv2).below hvg
  have hg3 := hg2.below hvg
  have l1 := (R1.stay hv2).lt
  clear a0 a1 b0 b1
  obtain ⟨b0, b1, -, -⟩ := B2.two
  clear A1 B1 R1 hbw1 ha2 hb2 hv2 hg2 hvg
  go_wp2_with fail
  refine (sgn_h _ y (-1) _ hb3 HS.out).mono ?_
  rintro e w3 ⟨rfl, hv3⟩
  have A3 := A2.stay hv3
  have B3 := B2.stay hv3
  have R3 := R2.stay hv3
  have G3 := G2.stay hv3
  have hbw3 := hbw2.step hv3 (Nat.le_refl _)
  have ha4 := ha3.below hv3
  have hb4 := hb3.below hv3
  have hg4 := hg3.below hv3
  clear b0 b1
  obtain ⟨g0, g1, -, -⟩ := G3.two
  clear A2 B2 R2 G2 hbw2 ha3 hb3 hg3 hv3
  go_wp2_with fail
  refine (neg_any _ _ _ hg4).mono ?_
  rintro e w4 ⟨v4, rfl, hn4, hv4⟩
  obtain ⟨nk, ko, lk, ck, rfl⟩ := hn4.shape
  have A4 := A3.stay hv4
  have B4 := B3.stay hv4
  have R4 := R3.stay hv4
  have G4 := G3.stay hv4
  have hbw4 := hbw3.step hv4 (Nat.le_refl _)
  have ha5 := ha4.below hv4
  have hb5 := hb4.below hv4
  clear g0 g1
  obtain ⟨g0, g1, gf0, gf1⟩ := G4.two
  clear A3 B3 R3 G3 hbw3 ha4 hb4 hg4 hv4
  have kG := keepI_two G4 nk ko lk ck
  have oA := A4.other2 (show w2.heap.size ≠ w.heap.size by omega) (.bool nk) (.slice ko lk ck)
  have oB := B4.other2 (show w2.heap.size ≠ w.heap.size + 1 by omega) (.bool nk) (.slice ko lk ck)
  have rR := R4.other2 (show w2.heap.size ≠ w.heap.size + 1 + 1 by omega) (.bool nk) (.slice ko lk ck)
  have oG := G4.over2 (.bool nk) (.slice ko lk ck)
  have hbw := below_store2 hbw4 (show w.heap.size ≤ w2.heap.size by omega) (.bool nk) (.slice ko lk ck)
  have hA := ha5.keepI kG
  have hB := hb5.keepI kG
  have hG := hn4.keepI kG
  clear A4 B4 R4 hbw4 ha5 hb5 hn4 kG
  go_wp2
  generalize ((w4.setCell ⟨w2.heap.size, 0, none⟩ (.bool nk)).setCell ⟨w2.heap.size, 1, none⟩ (.slice ko lk ck)) = W at oA oB rR oG hbw hA hB hG ⊢
  clear G4 g0 g1 gf0 gf1
  have ltA := oA.lt
  have ltB := oB.lt
  have ltG := oG.lt
  have ltR := rR.lt
  have geR : w.heap.size ≤ w.heap.size + 1 + 1 := by omega
  have neRA : w.heap.size + 1 + 1 ≠ w.heap.size := by omega
  have neRB : w.heap.size + 1 + 1 ≠ w.heap.size + 1 := by omega
  have neRG : w.heap.size + 1 + 1 ≠ w2.heap.size := by omega
  have HG0 : Hid ((-((Int.gcd x y : Nat) : Int)) ≠ 0) := by
    show _ ≠ _
    have := gcdz_pos (a := x) (b := y) (by have := HY.out; omega)
    omega
  have HP : Hid ((Rat.divInt x y).num = x.fdiv (-((Int.gcd x y : Nat) : Int)) ∧ ((Rat.divInt x y).den : Int) = y.fdiv (-((Int.gcd x y : Nat) : Int))) := divInt_parts_neg HY.out
  refine wp_region_M (by kernel_rfl) [5, 19, 20, 21, 22, 23, 24, 25] [none, none, none, none, none, some 5, none, none, none, none, none, none, none, none, none, none, none, none, none, some 19, some 20, some 21, some 22, some 23, some 24, some 25] (fun U => by kernel_rfl) (fun L U wr => Below w.heap.size w wr ∧ KeepI W wr ∧ W.heap.size ≤ wr.heap.size ∧ Blk 25 wr (w.heap.size) #[.bool na, .slice ao n cap] ∧ Blk 25 wr (w.heap.size + 1) #[.bool nb, .slice bo m cap'] ∧ Blk 25 wr (w2.heap.size) #[.bool nk, .slice ko lk ck] ∧ BlkV 27 wr (w.heap.size + 1 + 1) (bif L 7 then U 25 else .agg #[.bool false, .slice none 0 0, .bool false, .slice none 0 0]) ∧ (L 0 = true → IS (.agg #[.bool na, .slice ao n cap]) (U 19) wr) ∧ (L 1 = true → IS (.agg #[.bool nk, .slice ko lk ck]) (U 20) wr) ∧ (L 2 = true → INT (x.fdiv (-((Int.gcd x y : Nat) : Int))) (U 21) wr) ∧ (L 3 = true → IS (.agg #[.bool nb, .slice bo m cap']) (U 22) wr) ∧ (L 4 = true → IS (.agg #[.bool nk, .slice ko lk ck]) (U 23) wr) ∧ (L 5 = true → INT (y.fdiv (-((Int.gcd x y : Nat) : Int))) (U 24) wr) ∧ (L 6 = true → RAT (Rat.divInt x y) (U 25) wr) ∧ (L 8 = true → IS (.int .i64 0) (U 5) wr) ∧ (L 7 = true → L 6 = true)) (by kernel_rfl) ?_ ?_ ?_
  · exact fun U => ⟨hbw.drew, KeepI.below (Below.refl _ _).drew, Nat.le_refl _, oA.drew, oB.drew, oG.drew, ⟨_, rfl, rR.drew⟩, (fun h => by cases h), (fun h => by cases h), (fun h => by cases h), (fun h => by cases h), (fun h => by cases h), (fun h => by cases h), (fun h => by cases h), (fun h => by cases h), (fun h => by cases h)⟩
  · refine StepsU.run rfl ?_ ?_
    · intro L U wr hF hlk haf A K hA hK
      have HA : Hid (A = putAll _ _ U) := hA
      clear hA
      simp [Aft, Region.binds] at haf
      obtain ⟨fb, fk, fs, oA, oB, oG, rR, f0, f1, f2, f3, f4, f5, f6, f8, s7⟩ := hF
      have e2 : A.tmps[2]? = some (.pointer (some ⟨w.heap.size, 0, none⟩)) := by rw [HA.out]; kernel_rfl
      obtain ⟨c0, c1, -, -⟩ := oA.two
      refine ⟨?_⟩
      go_simp
      refine hK (upd U 19 (.agg #[.bool na, .slice ao n cap])) _ _ ?_ ?_
      · rw [HA.out]; kernel_rfl
      · exact ⟨fb, fk, fs, oA, oB, oG, rR, (fun _ => rfl), f1, f2, f3, f4, f5, f6, f8, s7⟩
    refine StepsU.run rfl ?_ ?_
    · intro L U wr hF hlk haf A K hA hK
      have HA : Hid (A = putAll _ _ U) := hA
      clear hA
      simp [Aft, Region.binds] at haf
      obtain ⟨fb, fk, fs, oA, oB, oG, rR, f0, f1, f2, f3, f4, f5, f6, f8, s7⟩ := hF
      have e6 : A.tmps[6]? = some (.pointer (some ⟨w2.heap.size, 0, none⟩)) := by rw [HA.out]; kernel_rfl
      obtain ⟨c0, c1, -, -⟩ := oG.two
      refine ⟨?_⟩
      go_simp
      refine hK (upd U 20 (.agg #[.bool nk, .slice ko lk ck])) _ _ ?_ ?_
      · rw [HA.out]; kernel_rfl
      · exact ⟨fb, fk, fs, oA, oB, oG, rR, f0, (fun _ => rfl), f2, f3, f4, f5, f6, f8, s7⟩
    refine StepsU.run rfl ?_ ?_
    · intro L U wr hF hlk haf A K hA hK
      have HA : Hid (A = putAll _ _ U) := hA
      clear hA
      simp [Aft, Region.binds] at haf
      obtain ⟨fb, fk, fs, oA, oB, oG, rR, f0, f1, f2, f3, f4, f5, f6, f8, s7⟩ := hF
      have g0 := f0 (by simp [haf])
      have e19 := rd HA.out 19 (by kernel_rfl) g0
      have g1 := f1 (by simp [haf])
      have e20 := rd HA.out 20 (by kernel_rfl) g1
      refine ⟨?_⟩
      go_simp
      refine (quotient_any _ _ x (-((Int.gcd x y : Nat) : Int)) _ _ (hA.keepI fk) (hG.keepI fk) HG0.out rfl).mono ?_
      rintro e w1 ⟨s6, a6, n6, c6, rfl, hr, hb⟩
      go_simp
      refine hK (upd U 21 (.agg #[.bool s6, .slice a6 n6 c6])) _ _ ?_ ?_
      · rw [HA.out]; kernel_rfl
      · exact ⟨(fb.step hb (Nat.le_refl _)), (fk.trans (KeepI.below hb)), (Nat.le_trans fs hb.size), (oA.stay hb), (oB.stay hb), (oG.stay hb), (rR.stay hb), (mv mo_is (KeepI.below hb) f0), (mv mo_is (KeepI.below hb) f1), (fun _ => hr), (mv mo_is (KeepI.below hb) f3), (mv mo_is (KeepI.below hb) f4), (mv mo_int (KeepI.below hb) f5), (mv mo_rat (KeepI.below hb) f6), (mv mo_is (KeepI.below hb) f8), s7⟩
    refine StepsU.run rfl ?_ ?_
    · intro L U wr hF hlk haf A K hA hK
      have HA : Hid (A = putAll _ _ U) := hA
      clear hA
      simp [Aft, Region.binds] at haf
      obtain ⟨fb, fk, fs, oA, oB, oG, rR, f0, f1, f2, f3, f4, f5, f6, f8, s7⟩ := hF
      have e3 : A.tmps[3]? = some (.pointer (some ⟨w.heap.size + 1, 0, none⟩)) := by rw [HA.out]; kernel_rfl
      obtain ⟨c0, c1, -, -⟩ := oB.two
      refine ⟨?_⟩
      go_simp
      refine hK (upd U 22 (.agg #[.bool nb, .slice bo m cap'])) _ _ ?_ ?_
      · rw [HA.out]; kernel_rfl
      · exact ⟨fb, fk, fs, oA, oB, oG, rR, f0, f1, f2, (fun _ => rfl), f4, f5, f6, f8, s7⟩
    refine StepsU.run rfl ?_ ?_
    · intro L U wr hF hlk haf A K hA hK
      have HA : Hid (A = putAll _ _ U) := hA
      clear hA
      simp [Aft, Region.binds] at haf
      obtain ⟨fb, fk, fs, oA, oB, oG, rR, f0, f1, f2, f3, f4, f5, f6, f8, s7⟩ := hF
      have e6 : A.tmps[6]? = some (.pointer (some ⟨w2.heap.size, 0, none⟩)) := by rw [HA.out]; kernel_rfl
      obtain ⟨c0, c1, -, -⟩ := oG.two
      refine ⟨?_⟩
      go_simp
      refine hK (upd U 23 (.agg #[.bool nk, .slice ko lk ck])) _ _ ?_ ?_
      · rw [HA.out]; kernel_rfl
      · exact ⟨fb, fk, fs, oA, oB, oG, rR, f0, f1, f2, f3, (fun _ => rfl), f5, f6, f8, s7⟩
    refine StepsU.run rfl ?_ ?_
    · intro L U wr hF hlk haf A K hA hK
      have HA : Hid (A = putAll _ _ U) := hA
      clear hA
      simp [Aft, Region.binds] at haf
      obtain ⟨fb, fk, fs, oA, oB, oG, rR, f0, f1, f2, f3, f4, f5, f6, f8, s7⟩ := hF
      have g3 := f3 (by simp [haf])
      have e22 := rd HA.out 22 (by kernel_rfl) g3
      have g4 := f4 (by simp [haf])
      have e23 := rd HA.out 23 (by kernel_rfl) g4
      refine ⟨?_⟩
      go_simp
      refine (quotient_any _ _ y (-((Int.gcd x y : Nat) : Int)) _ _ (hB.keepI fk) (hG.keepI fk) HG0.out rfl).mono ?_
      rintro e w1 ⟨s6, a6, n6, c6, rfl, hr, hb⟩
      go_simp
      refine hK (upd U 24 (.agg #[.bool s6, .slice a6 n6 c6])) _ _ ?_ ?_
      · rw [HA.out]; kernel_rfl
      · exact ⟨(fb.step hb (Nat.le_refl _)), (fk.trans (KeepI.below hb)), (Nat.le_trans fs hb.size), (oA.stay hb), (oB.stay hb), (oG.stay hb), (rR.stay hb), (mv mo_is (KeepI.below hb) f0), (mv mo_is (KeepI.below hb) f1), (mv mo_int (KeepI.below hb) f2), (mv mo_is (KeepI.below hb) f3), (mv mo_is (KeepI.below hb) f4), (fun _ => hr), (mv mo_rat (KeepI.below hb) f6), (mv mo_is (KeepI.below hb) f8), s7⟩
    refine StepsU.run rfl ?_ ?_
    · intro L U wr hF hlk haf A K hA hK
      have HA : Hid (A = putAll _ _ U) := hA
      clear hA
      simp [Aft, Region.binds] at haf
      obtain ⟨fb, fk, fs, oA, oB, oG, rR, f0, f1, f2, f3, f4, f5, f6, f8, s7⟩ := hF
      have g2 := f2 (by simp [haf])
      have e21 := rd HA.out 21 (by kernel_rfl) rfl
      have g5 := f5 (by simp [haf])
      have e24 := rd HA.out 24 (by kernel_rfl) rfl
      refine ⟨?_⟩
      go_simp
      refine (lowest_any _ _ _ _ (Rat.divInt x y) _ g2 g5 HP.out.1 HP.out.2).mono ?_
      rintro e w1 ⟨j1, j2, j3, j4, j5, j6, j7, j8, rfl, hr, hb⟩
      go_simp
      have hs7 : L 7 = false := by cases h : L 7 with | false => rfl | true => rw [s7 h] at hlk; cases hlk
      refine hK (upd U 25 (.agg #[.bool j1, .slice j2 j3 j4, .bool j5, .slice j6 j7 j8])) _ _ ?_ ?_
      · rw [HA.out]; kernel_rfl
      · exact ⟨(fb.step hb (Nat.le_refl _)), (fk.trans (KeepI.below hb)), (Nat.le_trans fs hb.size), (oA.stay hb), (oB.stay hb), (oG.stay hb), (flip_v (P := fun v => BlkV _ _ _ v) hs7 (rR.stay hb)), (mv mo_is (KeepI.below hb) f0), (mv mo_is (KeepI.below hb) f1), (mv mo_int (KeepI.below hb) f2), (mv mo_is (KeepI.below hb) f3), (mv mo_is (KeepI.below hb) f4), (mv mo_int (KeepI.below hb) f5), (fun _ => hr.val), (mv mo_is (KeepI.below hb) f8), (fun _ => rfl)⟩
    refine StepsU.run rfl ?_ ?_
    · intro L U wr hF hlk haf A K hA hK
      have HA : Hid (A = putAll _ _ U) := hA
      clear hA
      simp [Aft, Region.binds] at haf
      obtain ⟨fb, fk, fs, oA, oB, oG, rR, f0, f1, f2, f3, f4, f5, f6, f8, s7⟩ := hF
      have g6 := f6 (by simp [haf])
      obtain ⟨px, pa, pn, pc, qx, qa, qn, qc, hsrc, -⟩ := g6
      have e25 := rd HA.out 25 (by kernel_rfl) hsrc
      have e4 : A.tmps[4]? = some (.pointer (some ⟨w.heap.size + 1 + 1, 0, none⟩)) := by rw [HA.out]; kernel_rfl
      simp only [hlk, cond_false] at rR
      obtain ⟨cs, hcs, hblk⟩ := rR
      injection hcs with hcs
      subst hcs
      obtain ⟨c0, c1, c2, c3⟩ := hblk.four
      obtain ⟨q0, q1, q2, q3⟩ := hblk.frozen4
      refine ⟨?_⟩
      go_simp
      have hk := keepI_four (noI_slice _ _ _) (noI_slice _ _ _) hblk px pa pn pc qx qa qn qc
      refine hK U _ _ ?_ ?_
      · exact HA.out
      · exact ⟨(below_store4 fb geR _ _ _ _), (fk.trans hk), (by simpa using fs), (oA.other4 neRA _ _ _ _), (oB.other4 neRB _ _ _ _), (oG.other4 neRG _ _ _ _), (stored_old hsrc (hblk.over4 _ _ _ _)), (mv mo_is hk f0), (mv mo_is hk f1), (mv mo_int hk f2), (mv mo_is hk f3), (mv mo_is hk f4), (mv mo_int hk f5), (mv mo_rat hk f6), (mv mo_is hk f8), (fun _ => by simp [haf])⟩
    refine StepsU.run rfl ?_ StepsU.nil
    · intro L U wr hF hlk haf A K hA hK
      have HA : Hid (A = putAll _ _ U) := hA
      clear hA
      simp [Aft, Region.binds] at haf
      obtain ⟨fb, fk, fs, oA, oB, oG, rR, f0, f1, f2, f3, f4, f5, f6, f8, s7⟩ := hF
      refine ⟨?_⟩
      go_simp
      refine hK (upd U 5 (.int .i64 0)) _ _ ?_ ?_
      · rw [HA.out]; kernel_rfl
      · exact ⟨fb, fk, fs, oA, oB, oG, rR, f0, f1, f2, f3, f4, f5, f6, (fun _ => rfl), s7⟩
  intro L U wr hall hF
  obtain ⟨fb, fk, fs, oA, oB, oG, rR, f0, f1, f2, f3, f4, f5, f6, f8, s7⟩ := hF
  clear s7
  have g0 := f0 (hall 0 (by decide))
  have g1 := f1 (hall 1 (by decide))
  have g2 := f2 (hall 2 (by decide))
  have g3 := f3 (hall 3 (by decide))
  have g4 := f4 (hall 4 (by decide))
  have g5 := f5 (hall 5 (by decide))
  have g6 := f6 (hall 6 (by decide))
  have g8 := f8 (hall 8 (by decide))
  rw [hall 7 (by decide), cond_true] at rR
  clear hall f0 f1 f2 f3 f4 f5 f6 f8
  replace ltA := Nat.lt_of_lt_of_le ltA fs
  replace ltB := Nat.lt_of_lt_of_le ltB fs
  replace ltG := Nat.lt_of_lt_of_le ltG fs
  replace ltR := Nat.lt_of_lt_of_le ltR fs
  simp only [setM_some, setM_none, setM_nil]
  obtain ⟨cs, hcs, B⟩ := rR
  obtain ⟨px, pa, pn, pc, qx, qa, qn, qc, hv, hq⟩ := g6
  rw [hv] at hcs
  injection hcs with hcs
  subst hcs
  obtain ⟨r0, r1, r2, r3⟩ := B.four
  have g8' : U 5 = _ := g8
  go_wp2
  refine bodyPost_ret (v := .tuple #[.agg #[.bool px, .slice pa pn pc, .bool qx, .slice qa qn qc], .int .i64 0]) (by simp [results, Try.results27, go_sem, r0, r1, r2, r3, g8']) rfl ?_
  exact ⟨_, _, _, _, _, _, _, _, rfl, hq, fb⟩

/-- The code of a quotient. -/
def qc0 (y : Int) : Int := if y = 0 then 12 else 0
theorem of_any (va vb : Value) (x y : Int) (w : World) (ha : AInt w va x) (hb : AInt w vb y) :
    Calls Try.prog 27 #[va, vb] w fun e w' => ∃ x1 a1 n1 c1 y1 e1 m1 f1, e = .returned (.tuple #[.agg #[.bool x1, .slice a1 n1 c1, .bool y1, .slice e1 m1 f1], .int .i64 (qc0 y)]) ∧ QP w' x1 a1 n1 c1 y1 e1 m1 f1 (Rat.divInt x y) ∧ Below w.heap.size w w' := by
  unfold qc0
  rcases Int.lt_trichotomy y 0 with h | h | h
  · rw [if_neg (by omega)]; exact of_neg va vb x y w ha hb h
  · subst h; rw [if_pos rfl, Rat.divInt_zero]; exact of_zero va vb x w ha hb
  · rw [if_neg (by omega)]; exact of_pos va vb x y w ha hb h

end Go.Proofs.Ytidpbdhhbeaijab
/- Contracts of ratio's Text, cross and Add; they prove no statement of the seat. -/
namespace Go.Proofs.Ytidpbdhhbeaijab
open Go.RowKit

/-- Whatever is on the way of a sum of products fits. -/
def crFits (a p c q : Int) : Prop := (a * p).natAbs < lim ∧ (c * q).natAbs < lim ∧ (a * p + c * q).natAbs < lim
def crC (a p c q : Int) : Int := if (a * p).natAbs < lim ∧ (c * q).natAbs < lim ∧ (a * p + c * q).natAbs < lim then 0 else 11
def crZ (a p c q : Int) : Int := if (a * p).natAbs < lim ∧ (c * q).natAbs < lim ∧ (a * p + c * q).natAbs < lim then a * p + c * q else 0
theorem crC_yes {a p c q : Int} (h : crFits a p c q) : crC a p c q = 0 := if_pos h
theorem crC_no {a p c q : Int} (h : ¬ crFits a p c q) : crC a p c q = 11 := if_neg h
theorem crZ_yes {a p c q : Int} (h : crFits a p c q) : crZ a p c q = a * p + c * q := if_pos h
theorem crZ_no {a p c q : Int} (h : ¬ crFits a p c q) : crZ a p c q = 0 := if_neg h

set_option maxRecDepth 20000 in
set_option maxHeartbeats 8000000 in
theorem cross_any (vA vP vC vQ : Value) (a1 p1 c1 q1 : Int) (w : World) (hA : AInt w vA a1) (hP : AInt w vP p1) (hC : AInt w vC c1) (hQ : AInt w vQ q1) :
    Calls Try.prog 34 #[vA, vP, vC, vQ] w fun e w' => ∃ s a n c, e = .returned (.tuple #[.agg #[.bool s, .slice a n c], .int .i64 (crC a1 p1 c1 q1)]) ∧ AInt w' (.agg #[.bool s, .slice a n c]) (crZ a1 p1 c1 q1) ∧ Below w.heap.size w w' := by
  obtain ⟨xA, aA, nA, cA, rfl⟩ := hA.shape
  obtain ⟨xP, aP, nP, cP, rfl⟩ := hP.shape
  obtain ⟨xC, aC, nC, cC, rfl⟩ := hC.shape
  obtain ⟨xQ, aQ, nQ, cQ, rfl⟩ := hQ.shape
  have oA := (((((Blk.new w 25 #[.bool xA, .slice aA nA cA]).alloc (.cells #[.bool xP, .slice aP nP cP] 25 (0, 0))).alloc (.cells #[.bool xC, .slice aC nC cC] 25 (0, 0))).alloc (.cells #[.bool xQ, .slice aQ nQ cQ] 25 (0, 0))).alloc (.cells #[.bool false, .slice none 0 0] 25 (0, 0)))
  have oP := ((((Blk.new (w.alloc (.cells #[.bool xA, .slice aA nA cA] 25 (0, 0))) 25 #[.bool xP, .slice aP nP cP]).alloc (.cells #[.bool xC, .slice aC nC cC] 25 (0, 0))).alloc (.cells #[.bool xQ, .slice aQ nQ cQ] 25 (0, 0))).alloc (.cells #[.bool false, .slice none 0 0] 25 (0, 0)))
  have oC := (((Blk.new ((w.alloc (.cells #[.bool xA, .slice aA nA cA] 25 (0, 0))).alloc (.cells #[.bool xP, .slice aP nP cP] 25 (0, 0))) 25 #[.bool xC, .slice aC nC cC]).alloc (.cells #[.bool xQ, .slice aQ nQ cQ] 25 (0, 0))).alloc (.cells #[.bool false, .slice none 0 0] 25 (0, 0)))
  have oQ := ((Blk.new (((w.alloc (.cells #[.bool xA, .slice aA nA cA] 25 (0, 0))).alloc (.cells #[.bool xP, .slice aP nP cP] 25 (0, 0))).alloc (.cells #[.bool xC, .slice aC nC cC] 25 (0, 0))) 25 #[.bool xQ, .slice aQ nQ cQ]).alloc (.cells #[.bool false, .slice none 0 0] 25 (0, 0)))
  have oR := (Blk.new ((((w.alloc (.cells #[.bool xA, .slice aA nA cA] 25 (0, 0))).alloc (.cells #[.bool xP, .slice aP nP cP] 25 (0, 0))).alloc (.cells #[.bool xC, .slice aC nC cC] 25 (0, 0))).alloc (.cells #[.bool xQ, .slice aQ nQ cQ] 25 (0, 0))) 25 #[.bool false, .slice none 0 0])
  simp only [World.size_alloc] at oP oC oQ oR
  have hbw : Below w.heap.size w (((((w.alloc (.cells #[.bool xA, .slice aA nA cA] 25 (0, 0))).alloc (.cells #[.bool xP, .slice aP nP cP] 25 (0, 0))).alloc (.cells #[.bool xC, .slice aC nC cC] 25 (0, 0))).alloc (.cells #[.bool xQ, .slice aQ nQ cQ] 25 (0, 0))).alloc (.cells #[.bool false, .slice none 0 0] 25 (0, 0))) := by go_grown
  replace hA := hA.below hbw
  replace hP := hP.below hbw
  replace hC := hC.below hbw
  replace hQ := hQ.below hbw
  have ltA := oA.lt
  have ltP := oP.lt
  have ltC := oC.lt
  have ltQ := oQ.lt
  have ltR := oR.lt
  go_enter Try.func34, Try.ntmps34
  by_cases g1 : (a1 * p1).natAbs < lim
  · have E1 : ec (a1 * p1) = 0 := ec_of g1
    have H1 : Hid ((a1 * p1).natAbs < lim) := g1
    clear g1
    obtain ⟨Ac0, Ac1, Aq0, Aq1⟩ := oA.two
    obtain ⟨Pc0, Pc1, Pq0, Pq1⟩ := oP.two
    go_wp2_with fail
    refine (mul_h _ _ a1 p1 _ hA hP).mono ?_
    rintro e w1 ⟨x1, e1, n1, c1', rfl, h1, hb⟩
    clear Ac0 Ac1 Aq0 Aq1
    clear Pc0 Pc1 Pq0 Pq1
    replace oA := oA.stay hb
    replace ltA := oA.lt
    replace oP := oP.stay hb
    replace ltP := oP.lt
    replace oC := oC.stay hb
    replace ltC := oC.lt
    replace oQ := oQ.stay hb
    replace ltQ := oQ.lt
    replace oR := oR.stay hb
    replace ltR := oR.lt
    replace hA := hA.below hb
    replace hP := hP.below hb
    replace hC := hC.below hb
    replace hQ := hQ.below hb
    replace hbw := hbw.step hb (Nat.le_refl _)
    clear hb
    rw [hz_of H1.out] at h1
    have hn := below_new w1 (.cells #[.bool x1, .slice e1 n1 c1'] 25 (0, 0))
    have oO := Blk.new w1 25 #[.bool x1, .slice e1 n1 c1']
    have neAO : w.heap.size ≠ w1.heap.size := Nat.ne_of_lt ltA
    have nePO : w.heap.size + 1 ≠ w1.heap.size := Nat.ne_of_lt ltP
    have neCO : w.heap.size + 1 + 1 ≠ w1.heap.size := Nat.ne_of_lt ltC
    have neQO : w.heap.size + 1 + 1 + 1 ≠ w1.heap.size := Nat.ne_of_lt ltQ
    have neRO : w.heap.size + 1 + 1 + 1 + 1 ≠ w1.heap.size := Nat.ne_of_lt ltR
    have lwO : w.heap.size ≤ w1.heap.size := hbw.size
    replace oA := oA.stay hn
    replace ltA := oA.lt
    replace oP := oP.stay hn
    replace ltP := oP.lt
    replace oC := oC.stay hn
    replace ltC := oC.lt
    replace oQ := oQ.stay hn
    replace ltQ := oQ.lt
    replace oR := oR.stay hn
    replace ltR := oR.lt
    replace hA := hA.below hn
    replace hP := hP.below hn
    replace hC := hC.below hn
    replace hQ := hQ.below hn
    replace h1 := h1.below hn
    replace hbw := hbw.step hn (Nat.le_refl _)
    clear hn
    have ltO := oO.lt
    by_cases g2 : (c1 * q1).natAbs < lim
    · have E2 : ec (c1 * q1) = 0 := ec_of g2
      have H2 : Hid ((c1 * q1).natAbs < lim) := g2
      clear g2
      obtain ⟨Cc0, Cc1, Cq0, Cq1⟩ := oC.two
      obtain ⟨Qc0, Qc1, Qq0, Qq1⟩ := oQ.two
      go_wp2_with fail
      refine (mul_h _ _ c1 q1 _ hC hQ).mono ?_
      rintro e w2 ⟨x2, e2, n2, c2', rfl, h2, hb⟩
      clear Cc0 Cc1 Cq0 Cq1
      clear Qc0 Qc1 Qq0 Qq1
      replace oA := oA.stay hb
      replace ltA := oA.lt
      replace oP := oP.stay hb
      replace ltP := oP.lt
      replace oC := oC.stay hb
      replace ltC := oC.lt
      replace oQ := oQ.stay hb
      replace ltQ := oQ.lt
      replace oR := oR.stay hb
      replace ltR := oR.lt
      replace oO := oO.stay hb
      replace ltO := oO.lt
      replace hA := hA.below hb
      replace hP := hP.below hb
      replace hC := hC.below hb
      replace hQ := hQ.below hb
      replace h1 := h1.below hb
      replace hbw := hbw.step hb (Nat.le_refl _)
      clear hb
      rw [hz_of H2.out] at h2
      have hn := below_new w2 (.cells #[.bool x2, .slice e2 n2 c2'] 25 (0, 0))
      have oT := Blk.new w2 25 #[.bool x2, .slice e2 n2 c2']
      have neAT : w.heap.size ≠ w2.heap.size := Nat.ne_of_lt ltA
      have nePT : w.heap.size + 1 ≠ w2.heap.size := Nat.ne_of_lt ltP
      have neCT : w.heap.size + 1 + 1 ≠ w2.heap.size := Nat.ne_of_lt ltC
      have neQT : w.heap.size + 1 + 1 + 1 ≠ w2.heap.size := Nat.ne_of_lt ltQ
      have neRT : w.heap.size + 1 + 1 + 1 + 1 ≠ w2.heap.size := Nat.ne_of_lt ltR
      have neOT : w1.heap.size ≠ w2.heap.size := Nat.ne_of_lt ltO
      have lwT : w.heap.size ≤ w2.heap.size := hbw.size
      replace oA := oA.stay hn
      replace ltA := oA.lt
      replace oP := oP.stay hn
      replace ltP := oP.lt
      replace oC := oC.stay hn
      replace ltC := oC.lt
      replace oQ := oQ.stay hn
      replace ltQ := oQ.lt
      replace oR := oR.stay hn
      replace ltR := oR.lt
      replace oO := oO.stay hn
      replace ltO := oO.lt
      replace hA := hA.below hn
      replace hP := hP.below hn
      replace hC := hC.below hn
      replace hQ := hQ.below hn
      replace h1 := h1.below hn
      replace h2 := h2.below hn
      replace hbw := hbw.step hn (Nat.le_refl _)
      clear hn
      have ltT := oT.lt
      obtain ⟨Oc0, Oc1, Oq0, Oq1⟩ := oO.two
      obtain ⟨Tc0, Tc1, Tq0, Tq1⟩ := oT.two
      go_wp2_with fail
      refine (add_h _ _ (a1 * p1) (c1 * q1) _ h1 h2).mono ?_
      rintro e w3 ⟨x3, e3, n3, c3', rfl, h3, hb⟩
      clear Oc0 Oc1 Oq0 Oq1
      clear Tc0 Tc1 Tq0 Tq1
      replace oA := oA.stay hb
      replace ltA := oA.lt
      replace oP := oP.stay hb
      replace ltP := oP.lt
      replace oC := oC.stay hb
      replace ltC := oC.lt
      replace oQ := oQ.stay hb
      replace ltQ := oQ.lt
      replace oR := oR.stay hb
      replace ltR := oR.lt
      replace oO := oO.stay hb
      replace ltO := oO.lt
      replace oT := oT.stay hb
      replace ltT := oT.lt
      replace hA := hA.below hb
      replace hP := hP.below hb
      replace hC := hC.below hb
      replace hQ := hQ.below hb
      replace h1 := h1.below hb
      replace h2 := h2.below hb
      replace hbw := hbw.step hb (Nat.le_refl _)
      clear hb
      obtain ⟨Rc0, Rc1, Rq0, Rq1⟩ := oR.two
      go_wp2
      have HE : Hid (ec (a1 * p1 + c1 * q1) = crC a1 p1 c1 q1 ∧ hz (a1 * p1 + c1 * q1) = crZ a1 p1 c1 q1) := by
        unfold crC crZ ec hz
        by_cases k : (a1 * p1 + c1 * q1).natAbs < lim
        · rw [if_pos k, if_pos k, if_pos ⟨H1.out, H2.out, k⟩, if_pos ⟨H1.out, H2.out, k⟩]; exact ⟨rfl, rfl⟩
        · rw [if_neg k, if_neg k, if_neg (fun h => k h.2.2), if_neg (fun h => k h.2.2)]; exact ⟨rfl, rfl⟩
      refine bodyPost_ret (v := (.tuple #[.agg #[.bool x3, .slice e3 n3 c3'], .int .i64 (ec (a1 * p1 + c1 * q1))])) (by simp [results, Try.results34, go_sem, Rc0, Rc1]) rfl ?_
      refine ⟨_, _, _, _, by rw [HE.out.1], ?_, below_store2 hbw (by omega) _ _⟩
      rw [← HE.out.2]
      exact h3.store2 oR _ _ _ _
    · have E2 : ec (c1 * q1) = 11 := ec_not g2
      have HN : Hid (¬ crFits a1 p1 c1 q1) := fun h => g2 h.2.1
      clear g2
      obtain ⟨Cc0, Cc1, Cq0, Cq1⟩ := oC.two
      obtain ⟨Qc0, Qc1, Qq0, Qq1⟩ := oQ.two
      go_wp2_with fail
      refine (mul_h _ _ c1 q1 _ hC hQ).mono ?_
      rintro e w2 ⟨x2, e2, n2, c2', rfl, h2, hb⟩
      clear Cc0 Cc1 Cq0 Cq1
      clear Qc0 Qc1 Qq0 Qq1
      replace oA := oA.stay hb
      replace ltA := oA.lt
      replace oP := oP.stay hb
      replace ltP := oP.lt
      replace oC := oC.stay hb
      replace ltC := oC.lt
      replace oQ := oQ.stay hb
      replace ltQ := oQ.lt
      replace oR := oR.stay hb
      replace ltR := oR.lt
      replace oO := oO.stay hb
      replace ltO := oO.lt
      replace hA := hA.below hb
      replace hP := hP.below hb
      replace hC := hC.below hb
      replace hQ := hQ.below hb
      replace h1 := h1.below hb
      replace hbw := hbw.step hb (Nat.le_refl _)
      clear hb
      have hn := below_new w2 (.cells #[.bool x2, .slice e2 n2 c2'] 25 (0, 0))
      have oT := Blk.new w2 25 #[.bool x2, .slice e2 n2 c2']
      have neAT : w.heap.size ≠ w2.heap.size := Nat.ne_of_lt ltA
      have nePT : w.heap.size + 1 ≠ w2.heap.size := Nat.ne_of_lt ltP
      have neCT : w.heap.size + 1 + 1 ≠ w2.heap.size := Nat.ne_of_lt ltC
      have neQT : w.heap.size + 1 + 1 + 1 ≠ w2.heap.size := Nat.ne_of_lt ltQ
      have neRT : w.heap.size + 1 + 1 + 1 + 1 ≠ w2.heap.size := Nat.ne_of_lt ltR
      have neOT : w1.heap.size ≠ w2.heap.size := Nat.ne_of_lt ltO
      have lwT : w.heap.size ≤ w2.heap.size := hbw.size
      replace oA := oA.stay hn
      replace ltA := oA.lt
      replace oP := oP.stay hn
      replace ltP := oP.lt
      replace oC := oC.stay hn
      replace ltC := oC.lt
      replace oQ := oQ.stay hn
      replace ltQ := oQ.lt
      replace oR := oR.stay hn
      replace ltR := oR.lt
      replace oO := oO.stay hn
      replace ltO := oO.lt
      replace hA := hA.below hn
      replace hP := hP.below hn
      replace hC := hC.below hn
      replace hQ := hQ.below hn
      replace h1 := h1.below hn
      replace hbw := hbw.step hn (Nat.le_refl _)
      clear hn
      have ltT := oT.lt
      obtain ⟨Rc0, Rc1, Rq0, Rq1⟩ := oR.two
      go_wp2
      refine bodyPost_ret (v := (.tuple #[.agg #[.bool false, .slice none 0 0], .int .i64 11])) (by simp [results, Try.results34, go_sem, Rc0, Rc1]) rfl ?_
      refine ⟨_, _, _, _, by rw [crC_no HN.out], ?_, ?_⟩
      · rw [crZ_no HN.out]; exact AInt.zero _
      · first | exact hbw | exact below_store2 hbw (by omega) _ _
  · have E1 : ec (a1 * p1) = 11 := ec_not g1
    have HN : Hid (¬ crFits a1 p1 c1 q1) := fun h => g1 h.1
    clear g1
    obtain ⟨Ac0, Ac1, Aq0, Aq1⟩ := oA.two
    obtain ⟨Pc0, Pc1, Pq0, Pq1⟩ := oP.two
    go_wp2_with fail
    refine (mul_h _ _ a1 p1 _ hA hP).mono ?_
    rintro e w1 ⟨x1, e1, n1, c1', rfl, h1, hb⟩
    clear Ac0 Ac1 Aq0 Aq1
    clear Pc0 Pc1 Pq0 Pq1
    replace oA := oA.stay hb
    replace ltA := oA.lt
    replace oP := oP.stay hb
    replace ltP := oP.lt
    replace oC := oC.stay hb
    replace ltC := oC.lt
    replace oQ := oQ.stay hb
    replace ltQ := oQ.lt
    replace oR := oR.stay hb
    replace ltR := oR.lt
    replace hA := hA.below hb
    replace hP := hP.below hb
    replace hC := hC.below hb
    replace hQ := hQ.below hb
    replace hbw := hbw.step hb (Nat.le_refl _)
    clear hb
    have hn := below_new w1 (.cells #[.bool x1, .slice e1 n1 c1'] 25 (0, 0))
    have oO := Blk.new w1 25 #[.bool x1, .slice e1 n1 c1']
    have neAO : w.heap.size ≠ w1.heap.size := Nat.ne_of_lt ltA
    have nePO : w.heap.size + 1 ≠ w1.heap.size := Nat.ne_of_lt ltP
    have neCO : w.heap.size + 1 + 1 ≠ w1.heap.size := Nat.ne_of_lt ltC
    have neQO : w.heap.size + 1 + 1 + 1 ≠ w1.heap.size := Nat.ne_of_lt ltQ
    have neRO : w.heap.size + 1 + 1 + 1 + 1 ≠ w1.heap.size := Nat.ne_of_lt ltR
    have lwO : w.heap.size ≤ w1.heap.size := hbw.size
    replace oA := oA.stay hn
    replace ltA := oA.lt
    replace oP := oP.stay hn
    replace ltP := oP.lt
    replace oC := oC.stay hn
    replace ltC := oC.lt
    replace oQ := oQ.stay hn
    replace ltQ := oQ.lt
    replace oR := oR.stay hn
    replace ltR := oR.lt
    replace hA := hA.below hn
    replace hP := hP.below hn
    replace hC := hC.below hn
    replace hQ := hQ.below hn
    replace hbw := hbw.step hn (Nat.le_refl _)
    clear hn
    have ltO := oO.lt
    obtain ⟨Rc0, Rc1, Rq0, Rq1⟩ := oR.two
    go_wp2
    refine bodyPost_ret (v := (.tuple #[.agg #[.bool false, .slice none 0 0], .int .i64 11])) (by simp [results, Try.results34, go_sem, Rc0, Rc1]) rfl ?_
    refine ⟨_, _, _, _, by rw [crC_no HN.out], ?_, ?_⟩
    · rw [crZ_no HN.out]; exact AInt.zero _
    · first | exact hbw | exact below_store2 hbw (by omega) _ _

def addC (x y : Rat) : Int := if (x.num * aD x y).natAbs < lim ∧ (y.num * aB x y).natAbs < lim ∧ (aT x y).natAbs < lim ∧ (aB x y * aK x y).natAbs < lim then 0 else 11
def addZ (x y : Rat) : Rat := if (x.num * aD x y).natAbs < lim ∧ (y.num * aB x y).natAbs < lim ∧ (aT x y).natAbs < lim ∧ (aB x y * aK x y).natAbs < lim then x + y else 0
theorem addC_yes {x y : Rat} (h : aFits lim x y) : addC x y = 0 := if_pos h
theorem addC_no {x y : Rat} (h : ¬ aFits lim x y) : addC x y = 11 := if_neg h
theorem addZ_yes {x y : Rat} (h : aFits lim x y) : addZ x y = x + y := if_pos h
theorem addZ_no {x y : Rat} (h : ¬ aFits lim x y) : addZ x y = 0 := if_neg h

set_option maxRecDepth 20000 in
set_option maxHeartbeats 16000000 in
theorem qadd_any (vX vY : Value) (x1 y1 : Rat) (w : World) (hX : QV w vX x1) (hY : QV w vY y1) :
    Calls Try.prog 10 #[vX, vY] w fun e w' => ∃ s1 s2 s3 s4 s5 s6 s7 s8, e = .returned (.tuple #[.agg #[.bool s1, .slice s2 s3 s4, .bool s5, .slice s6 s7 s8], .int .i64 (addC x1 y1)]) ∧ QP w' s1 s2 s3 s4 s5 s6 s7 s8 (addZ x1 y1) ∧ Below w.heap.size w w' := by
  obtain ⟨xX, aX, nX, cX, yX, eX, mX, fX, rfl, hX⟩ := hX
  obtain ⟨xY, aY, nY, cY, yY, eY, mY, fY, rfl, hY⟩ := hY
  have oX := (((Blk.new w 27 #[.bool xX, .slice aX nX cX, .bool yX, .slice eX mX fX]).alloc (.cells #[.bool xY, .slice aY nY cY, .bool yY, .slice eY mY fY] 27 (0, 0))).alloc (.cells #[.bool false, .slice none 0 0, .bool false, .slice none 0 0] 27 (0, 0)))
  have oY := ((Blk.new (w.alloc (.cells #[.bool xX, .slice aX nX cX, .bool yX, .slice eX mX fX] 27 (0, 0))) 27 #[.bool xY, .slice aY nY cY, .bool yY, .slice eY mY fY]).alloc (.cells #[.bool false, .slice none 0 0, .bool false, .slice none 0 0] 27 (0, 0)))
  have oR := (Blk.new ((w.alloc (.cells #[.bool xX, .slice aX nX cX, .bool yX, .slice eX mX fX] 27 (0, 0))).alloc (.cells #[.bool xY, .slice aY nY cY, .bool yY, .slice eY mY fY] 27 (0, 0))) 27 #[.bool false, .slice none 0 0, .bool false, .slice none 0 0])
  simp only [World.size_alloc] at oY oR
  have hbw : Below w.heap.size w (((w.alloc (.cells #[.bool xX, .slice aX nX cX, .bool yX, .slice eX mX fX] 27 (0, 0))).alloc (.cells #[.bool xY, .slice aY nY cY, .bool yY, .slice eY mY fY] 27 (0, 0))).alloc (.cells #[.bool false, .slice none 0 0, .bool false, .slice none 0 0] 27 (0, 0))) := by go_grown
  replace hX := hX.below hbw
  replace hY := hY.below hbw
  have ltX := oX.lt
  have ltY := oY.lt
  have ltR := oR.lt
  go_enter Try.func10, Try.ntmps10
  go_wp2
  generalize (((w.alloc (.cells #[.bool xX, .slice aX nX cX, .bool yX, .slice eX mX fX] 27 (0, 0))).alloc (.cells #[.bool xY, .slice aY nY cY, .bool yY, .slice eY mY fY] 27 (0, 0))).alloc (.cells #[.bool false, .slice none 0 0, .bool false, .slice none 0 0] 27 (0, 0))) = W0 at hbw oX oY oR ltX ltY ltR hX hY ⊢
  refine wp_region_M (by kernel_rfl) [6, 7, 14, 15, 16, 17] [none, none, none, none, none, none, some 6, some 7, none, none, none, none, none, none, some 14, some 15, some 16, some 17] (fun U => by kernel_rfl) (fun L U wr => Below w.heap.size w wr ∧ KeepI W0 wr ∧ W0.heap.size ≤ wr.heap.size ∧ Blk 27 wr (w.heap.size) #[.bool xX, .slice aX nX cX, .bool yX, .slice eX mX fX] ∧ Blk 27 wr (w.heap.size + 1) #[.bool xY, .slice aY nY cY, .bool yY, .slice eY mY fY] ∧ Blk 27 wr (w.heap.size + 1 + 1) #[.bool false, .slice none 0 0, .bool false, .slice none 0 0] ∧ (L 0 = true → IS (.agg #[.bool xX, .slice aX nX cX, .bool yX, .slice eX mX fX]) (U 14) wr) ∧ (L 1 = true → INT (x1.den : Int) (U 15) wr) ∧ (L 2 = true → IS (.agg #[.bool xY, .slice aY nY cY, .bool yY, .slice eY mY fY]) (U 16) wr) ∧ (L 3 = true → INT (y1.den : Int) (U 17) wr) ∧ (L 4 = true → NEW 25 W0.heap.size wr (U 6) (bif L 6 then U 15 else .agg #[.bool false, .slice none 0 0])) ∧ (L 5 = true → NEW 25 W0.heap.size wr (U 7) (bif L 7 then U 17 else .agg #[.bool false, .slice none 0 0])) ∧ (L 6 = true → L 1 = true) ∧ (L 7 = true → L 3 = true) ∧ (L 6 = true → L 4 = true) ∧ (L 7 = true → L 5 = true) ∧ (L 4 = true → L 5 = true → U 6 ≠ U 7)) (by kernel_rfl) ?_ ?_ ?_
  · exact fun U => ⟨hbw.drew, KeepI.below (Below.refl _ _).drew, Nat.le_refl _, oX.drew, oY.drew, oR.drew, (fun h => by cases h), (fun h => by cases h), (fun h => by cases h), (fun h => by cases h), (fun h => by cases h), (fun h => by cases h), (fun h => by cases h), (fun h => by cases h), (fun h => by cases h), (fun h => by cases h), (fun h => by cases h)⟩
  · refine StepsU.run rfl ?_ ?_
    · intro L U wr hF hlk haf A K hA hK
      have HA : Hid (A = putAll _ _ U) := hA
      clear hA
      simp [Aft, Region.binds] at haf
      obtain ⟨fb, fk, fs, oX, oY, oR, f0, f1, f2, f3, f4, f5, s6, s7, m4, m5, d4_5⟩ := hF
      have e2 : A.tmps[2]? = some (.pointer (some ⟨w.heap.size, 0, none⟩)) := by rw [HA.out]; kernel_rfl
      obtain ⟨c0, c1, c2, c3⟩ := oX.four
      refine ⟨?_⟩
      go_simp
      refine hK (upd U 14 (.agg #[.bool xX, .slice aX nX cX, .bool yX, .slice eX mX fX])) _ _ ?_ ?_
      · rw [HA.out]; kernel_rfl
      · exact ⟨fb, fk, fs, oX, oY, oR, (fun _ => rfl), f1, f2, f3, f4, f5, s6, s7, m4, m5, d4_5⟩
    refine StepsU.run rfl ?_ ?_
    · intro L U wr hF hlk haf A K hA hK
      have HA : Hid (A = putAll _ _ U) := hA
      clear hA
      simp [Aft, Region.binds] at haf
      obtain ⟨fb, fk, fs, oX, oY, oR, f0, f1, f2, f3, f4, f5, s6, s7, m4, m5, d4_5⟩ := hF
      have g0 := f0 (by simp [haf])
      have e14 := rd HA.out 14 (by kernel_rfl) g0
      refine ⟨?_⟩
      go_simp
      refine (den_any _ x1 _ (hX.val.keepI fk)).mono ?_
      rintro e w1 ⟨u1, u2, u3, u4, rfl, hr, hb⟩
      go_simp
      have hs6 : L 6 = false := by cases h : L 6 with | false => rfl | true => rw [s6 h] at hlk; cases hlk
      refine hK (upd U 15 (.agg #[.bool u1, .slice u2 u3 u4])) _ _ ?_ ?_
      · rw [HA.out]; kernel_rfl
      · exact ⟨(fb.step hb (Nat.le_refl _)), (fk.trans (KeepI.below hb)), (Nat.le_trans fs hb.size), (oX.stay hb), (oY.stay hb), (oR.stay hb), (mv mo_is (KeepI.below hb) f0), (fun _ => hr), (mv mo_is (KeepI.below hb) f2), (mv mo_int (KeepI.below hb) f3), (fun h => flip_v (P := fun v => NEW _ _ _ _ v) hs6 ((fun h => (f4 h).below hb) h)), (fun h => (f5 h).below hb), (fun _ => rfl), s7, m4, m5, d4_5⟩
    refine StepsU.run rfl ?_ ?_
    · intro L U wr hF hlk haf A K hA hK
      have HA : Hid (A = putAll _ _ U) := hA
      clear hA
      simp [Aft, Region.binds] at haf
      obtain ⟨fb, fk, fs, oX, oY, oR, f0, f1, f2, f3, f4, f5, s6, s7, m4, m5, d4_5⟩ := hF
      have e3 : A.tmps[3]? = some (.pointer (some ⟨w.heap.size + 1, 0, none⟩)) := by rw [HA.out]; kernel_rfl
      obtain ⟨c0, c1, c2, c3⟩ := oY.four
      refine ⟨?_⟩
      go_simp
      refine hK (upd U 16 (.agg #[.bool xY, .slice aY nY cY, .bool yY, .slice eY mY fY])) _ _ ?_ ?_
      · rw [HA.out]; kernel_rfl
      · exact ⟨fb, fk, fs, oX, oY, oR, f0, f1, (fun _ => rfl), f3, f4, f5, s6, s7, m4, m5, d4_5⟩
    refine StepsU.run rfl ?_ ?_
    · intro L U wr hF hlk haf A K hA hK
      have HA : Hid (A = putAll _ _ U) := hA
      clear hA
      simp [Aft, Region.binds] at haf
      obtain ⟨fb, fk, fs, oX, oY, oR, f0, f1, f2, f3, f4, f5, s6, s7, m4, m5, d4_5⟩ := hF
      have g2 := f2 (by simp [haf])
      have e16 := rd HA.out 16 (by kernel_rfl) g2
      refine ⟨?_⟩
      go_simp
      refine (den_any _ y1 _ (hY.val.keepI fk)).mono ?_
      rintro e w1 ⟨u1, u2, u3, u4, rfl, hr, hb⟩
      go_simp
      have hs7 : L 7 = false := by cases h : L 7 with | false => rfl | true => rw [s7 h] at hlk; cases hlk
      refine hK (upd U 17 (.agg #[.bool u1, .slice u2 u3 u4])) _ _ ?_ ?_
      · rw [HA.out]; kernel_rfl
      · exact ⟨(fb.step hb (Nat.le_refl _)), (fk.trans (KeepI.below hb)), (Nat.le_trans fs hb.size), (oX.stay hb), (oY.stay hb), (oR.stay hb), (mv mo_is (KeepI.below hb) f0), (mv mo_int (KeepI.below hb) f1), (mv mo_is (KeepI.below hb) f2), (fun _ => hr), (fun h => (f4 h).below hb), (fun h => flip_v (P := fun v => NEW _ _ _ _ v) hs7 ((fun h => (f5 h).below hb) h)), s6, (fun _ => rfl), m4, m5, d4_5⟩
    refine StepsU.run rfl ?_ ?_
    · intro L U wr hF hlk haf A K hA hK
      have HA : Hid (A = putAll _ _ U) := hA
      clear hA
      simp [Aft, Region.binds] at haf
      obtain ⟨fb, fk, fs, oX, oY, oR, f0, f1, f2, f3, f4, f5, s6, s7, m4, m5, d4_5⟩ := hF
      have hst : L 6 = false := by cases h : L 6 with | false => rfl | true => rw [m4 h] at hlk; cases hlk
      refine ⟨?_⟩
      go_simp
      have hb := below_new wr (.cells #[.bool false, .slice none 0 0] 25 (0, 0))
      refine hK (upd U 6 (.pointer (some ⟨wr.heap.size, 0, none⟩))) _ _ ?_ ?_
      · rw [HA.out]; kernel_rfl
      · exact ⟨(fb.step hb (Nat.le_refl _)), (fk.trans (KeepI.below hb)), (Nat.le_trans fs hb.size), (oX.stay hb), (oY.stay hb), (oR.stay hb), (mv mo_is (KeepI.below hb) f0), (mv mo_int (KeepI.below hb) f1), (mv mo_is (KeepI.below hb) f2), (mv mo_int (KeepI.below hb) f3), (fun _ => new_zero hst (NEW.mk fs (noI2 _ _ _ _))), (fun h => (f5 h).below hb), s6, s7, (fun _ => rfl), m5, (fun _ h => (f5 h).apart.symm)⟩
    refine StepsU.run rfl ?_ ?_
    · intro L U wr hF hlk haf A K hA hK
      have HA : Hid (A = putAll _ _ U) := hA
      clear hA
      simp [Aft, Region.binds] at haf
      obtain ⟨fb, fk, fs, oX, oY, oR, f0, f1, f2, f3, f4, f5, s6, s7, m4, m5, d4_5⟩ := hF
      have hst : L 7 = false := by cases h : L 7 with | false => rfl | true => rw [m5 h] at hlk; cases hlk
      refine ⟨?_⟩
      go_simp
      have hb := below_new wr (.cells #[.bool false, .slice none 0 0] 25 (0, 0))
      refine hK (upd U 7 (.pointer (some ⟨wr.heap.size, 0, none⟩))) _ _ ?_ ?_
      · rw [HA.out]; kernel_rfl
      · exact ⟨(fb.step hb (Nat.le_refl _)), (fk.trans (KeepI.below hb)), (Nat.le_trans fs hb.size), (oX.stay hb), (oY.stay hb), (oR.stay hb), (mv mo_is (KeepI.below hb) f0), (mv mo_int (KeepI.below hb) f1), (mv mo_is (KeepI.below hb) f2), (mv mo_int (KeepI.below hb) f3), (fun h => (f4 h).below hb), (fun _ => new_zero hst (NEW.mk fs (noI2 _ _ _ _))), s6, s7, m4, (fun _ => rfl), (fun h _ => (f4 h).apart)⟩
    refine StepsU.run rfl ?_ ?_
    · intro L U wr hF hlk haf A K hA hK
      have HA : Hid (A = putAll _ _ U) := hA
      clear hA
      simp [Aft, Region.binds] at haf
      obtain ⟨fb, fk, fs, oX, oY, oR, f0, f1, f2, f3, f4, f5, s6, s7, m4, m5, d4_5⟩ := hF
      have g1 := f1 (by simp [haf])
      obtain ⟨px, pa, pn, pc, hsrc⟩ := AInt.shape g1
      have e15 := rd HA.out 15 (by kernel_rfl) hsrc
      have gA := f4 (by simp [haf])
      simp only [hlk, cond_false] at gA
      obtain ⟨b, cs, hp, hBb, hcs, hblk, -⟩ := gA
      injection hcs with hcs
      subst hcs
      have e6 := rd HA.out 6 (by kernel_rfl) hp
      obtain ⟨c0, c1, q0, q1⟩ := hblk.two
      refine ⟨?_⟩
      go_simp
      have hk := keepI_two hblk px pa pn pc
      refine hK U _ _ ?_ ?_
      · exact HA.out
      · exact ⟨(below_store2 fb (Nat.le_trans hbw.size hBb) _ _), (fk.trans hk), (by simpa using fs), (oX.other2 (Nat.ne_of_gt (Nat.lt_of_lt_of_le ltX hBb)) _ _), (oY.other2 (Nat.ne_of_gt (Nat.lt_of_lt_of_le ltY hBb)) _ _), (oR.other2 (Nat.ne_of_gt (Nat.lt_of_lt_of_le ltR hBb)) _ _), (mv mo_is hk f0), (mv mo_int hk f1), (mv mo_is hk f2), (mv mo_int hk f3), (fun _ => stored_new hp hsrc (NEW.over2 hBb hblk px pa pn pc)), (fun h => (f5 h).other2 (fun ee => ((d4_5 (by simp [haf]) h).symm) (ee.trans hp.symm)) _ _), (fun _ => by simp [haf]), s7, (fun _ => by simp [haf]), m5, d4_5⟩
    refine StepsU.run rfl ?_ StepsU.nil
    · intro L U wr hF hlk haf A K hA hK
      have HA : Hid (A = putAll _ _ U) := hA
      clear hA
      simp [Aft, Region.binds] at haf
      obtain ⟨fb, fk, fs, oX, oY, oR, f0, f1, f2, f3, f4, f5, s6, s7, m4, m5, d4_5⟩ := hF
      have g3 := f3 (by simp [haf])
      obtain ⟨px, pa, pn, pc, hsrc⟩ := AInt.shape g3
      have e17 := rd HA.out 17 (by kernel_rfl) hsrc
      have gA := f5 (by simp [haf])
      simp only [hlk, cond_false] at gA
      obtain ⟨b, cs, hp, hBb, hcs, hblk, -⟩ := gA
      injection hcs with hcs
      subst hcs
      have e7 := rd HA.out 7 (by kernel_rfl) hp
      obtain ⟨c0, c1, q0, q1⟩ := hblk.two
      refine ⟨?_⟩
      go_simp
      have hk := keepI_two hblk px pa pn pc
      refine hK U _ _ ?_ ?_
      · exact HA.out
      · exact ⟨(below_store2 fb (Nat.le_trans hbw.size hBb) _ _), (fk.trans hk), (by simpa using fs), (oX.other2 (Nat.ne_of_gt (Nat.lt_of_lt_of_le ltX hBb)) _ _), (oY.other2 (Nat.ne_of_gt (Nat.lt_of_lt_of_le ltY hBb)) _ _), (oR.other2 (Nat.ne_of_gt (Nat.lt_of_lt_of_le ltR hBb)) _ _), (mv mo_is hk f0), (mv mo_int hk f1), (mv mo_is hk f2), (mv mo_int hk f3), (fun h => (f4 h).other2 (fun ee => (d4_5 h (by simp [haf])) (ee.trans hp.symm)) _ _), (fun _ => stored_new hp hsrc (NEW.over2 hBb hblk px pa pn pc)), s6, (fun _ => by simp [haf]), m4, (fun _ => by simp [haf]), d4_5⟩
  intro L U1 V1 hall hF
  have hbw0 := hbw
  clear hbw
  obtain ⟨hbw, fk, fs, oX, oY, oR, f0, f1, f2, f3, f4, f5, s6, s7, m4, m5, d4_5⟩ := hF
  clear s6 s7 m4 m5
  have g0 := f0 (hall 0 (by decide))
  have g1 := f1 (hall 1 (by decide))
  have g2 := f2 (hall 2 (by decide))
  have g3 := f3 (hall 3 (by decide))
  have g4 := f4 (hall 4 (by decide))
  rw [hall 6 (by decide), cond_true] at g4
  have g5 := f5 (hall 5 (by decide))
  rw [hall 7 (by decide), cond_true] at g5
  replace d4_5 := d4_5 (hall 4 (by decide)) (hall 5 (by decide))
  clear hall f0 f1 f2 f3 f4 f5
  replace hX := hX.keepI fk
  replace hY := hY.keepI fk
  obtain ⟨bI, csI, hpI, lbI, hcsI, oI, -⟩ := g4
  obtain ⟨xI, aI, nI, cI, hvI⟩ := AInt.shape g1
  have hI : AInt _ _ _ := g1
  rw [hvI] at hI
  rw [hvI] at hcsI
  injection hcsI with hcsI
  subst hcsI
  have ltI := oI.lt
  obtain ⟨bJ, csJ, hpJ, lbJ, hcsJ, oJ, -⟩ := g5
  obtain ⟨xJ, aJ, nJ, cJ, hvJ⟩ := AInt.shape g3
  have hJ : AInt _ _ _ := g3
  rw [hvJ] at hJ
  rw [hvJ] at hcsJ
  injection hcsJ with hcsJ
  subst hcsJ
  have ltJ := oJ.lt
  have neIJ : bI ≠ bJ := fun h => d4_5 (by rw [hpI, hpJ, h])
  clear d4_5
  have neXI : w.heap.size ≠ bI := Nat.ne_of_lt (Nat.lt_of_lt_of_le ltX lbI)
  have neYI : w.heap.size + 1 ≠ bI := Nat.ne_of_lt (Nat.lt_of_lt_of_le ltY lbI)
  have neRI : w.heap.size + 1 + 1 ≠ bI := Nat.ne_of_lt (Nat.lt_of_lt_of_le ltR lbI)
  have lwI : w.heap.size ≤ bI := Nat.le_trans hbw0.size lbI
  have neXJ : w.heap.size ≠ bJ := Nat.ne_of_lt (Nat.lt_of_lt_of_le ltX lbJ)
  have neYJ : w.heap.size + 1 ≠ bJ := Nat.ne_of_lt (Nat.lt_of_lt_of_le ltY lbJ)
  have neRJ : w.heap.size + 1 + 1 ≠ bJ := Nat.ne_of_lt (Nat.lt_of_lt_of_le ltR lbJ)
  have lwJ : w.heap.size ≤ bJ := Nat.le_trans hbw0.size lbJ
  clear lbI lbJ
  replace ltX := Nat.lt_of_lt_of_le ltX fs
  replace ltY := Nat.lt_of_lt_of_le ltY fs
  replace ltR := Nat.lt_of_lt_of_le ltR fs
  clear g0
  clear g1
  clear g2
  clear g3
  clear hbw0
  simp only [setM_some, setM_none, setM_nil]
  rw [hpI, hpJ]
  clear hpI hpJ hvI hvJ
  clear fk fs
  obtain ⟨Ic0, Ic1, Iq0, Iq1⟩ := oI.two
  obtain ⟨Jc0, Jc1, Jq0, Jq1⟩ := oJ.two
  go_wp2_with fail
  refine (gcd_h _ _ x1.den y1.den (aG x1 y1) _ hI hJ (aG_def x1 y1)).mono ?_
  rintro e w2 ⟨xG, aG', nG, cG, rfl, hG, hb⟩
  clear Ic0 Ic1 Iq0 Iq1
  clear Jc0 Jc1 Jq0 Jq1
  replace oX := oX.stay hb
  replace ltX := oX.lt
  replace oY := oY.stay hb
  replace ltY := oY.lt
  replace oR := oR.stay hb
  replace ltR := oR.lt
  replace oI := oI.stay hb
  replace ltI := oI.lt
  replace oJ := oJ.stay hb
  replace ltJ := oJ.lt
  replace hX := hX.below hb
  replace hY := hY.below hb
  replace hI := hI.below hb
  replace hJ := hJ.below hb
  replace hbw := hbw.step hb (Nat.le_refl _)
  clear hb
  have hn := below_new w2 (.cells #[.bool xG, .slice aG' nG cG] 25 (0, 0))
  have oG := Blk.new w2 25 #[.bool xG, .slice aG' nG cG]
  have neXG : w.heap.size ≠ w2.heap.size := Nat.ne_of_lt ltX
  have neYG : w.heap.size + 1 ≠ w2.heap.size := Nat.ne_of_lt ltY
  have neRG : w.heap.size + 1 + 1 ≠ w2.heap.size := Nat.ne_of_lt ltR
  have neIG : bI ≠ w2.heap.size := Nat.ne_of_lt ltI
  have neJG : bJ ≠ w2.heap.size := Nat.ne_of_lt ltJ
  have lwG : w.heap.size ≤ w2.heap.size := hbw.size
  replace oX := oX.stay hn
  replace ltX := oX.lt
  replace oY := oY.stay hn
  replace ltY := oY.lt
  replace oR := oR.stay hn
  replace ltR := oR.lt
  replace oI := oI.stay hn
  replace ltI := oI.lt
  replace oJ := oJ.stay hn
  replace ltJ := oJ.lt
  replace hX := hX.below hn
  replace hY := hY.below hn
  replace hI := hI.below hn
  replace hJ := hJ.below hn
  replace hG := hG.below hn
  replace hbw := hbw.step hn (Nat.le_refl _)
  clear hn
  have ltG := oG.lt
  have HG : Hid (aG x1 y1 ≠ 0) := Int.ne_of_gt (aG_pos x1 y1)
  obtain ⟨Ic0, Ic1, Iq0, Iq1⟩ := oI.two
  obtain ⟨Gc0, Gc1, Gq0, Gq1⟩ := oG.two
  go_wp2_with fail
  refine (quotient_any _ _ x1.den (aG x1 y1) (aB x1 y1) _ hI hG HG.out (aB_def x1 y1)).mono ?_
  rintro e w3 ⟨xL, aL, nL, cL, rfl, hL, hb⟩
  clear Ic0 Ic1 Iq0 Iq1
  clear Gc0 Gc1 Gq0 Gq1
  replace oX := oX.stay hb
  replace ltX := oX.lt
  replace oY := oY.stay hb
  replace ltY := oY.lt
  replace oR := oR.stay hb
  replace ltR := oR.lt
  replace oI := oI.stay hb
  replace ltI := oI.lt
  replace oJ := oJ.stay hb
  replace ltJ := oJ.lt
  replace oG := oG.stay hb
  replace ltG := oG.lt
  replace hX := hX.below hb
  replace hY := hY.below hb
  replace hI := hI.below hb
  replace hJ := hJ.below hb
  replace hG := hG.below hb
  replace hbw := hbw.step hb (Nat.le_refl _)
  clear hb
  have hn := below_new w3 (.cells #[.bool xL, .slice aL nL cL] 25 (0, 0))
  have oL := Blk.new w3 25 #[.bool xL, .slice aL nL cL]
  have neXL : w.heap.size ≠ w3.heap.size := Nat.ne_of_lt ltX
  have neYL : w.heap.size + 1 ≠ w3.heap.size := Nat.ne_of_lt ltY
  have neRL : w.heap.size + 1 + 1 ≠ w3.heap.size := Nat.ne_of_lt ltR
  have neIL : bI ≠ w3.heap.size := Nat.ne_of_lt ltI
  have neJL : bJ ≠ w3.heap.size := Nat.ne_of_lt ltJ
  have neGL : w2.heap.size ≠ w3.heap.size := Nat.ne_of_lt ltG
  have lwL : w.heap.size ≤ w3.heap.size := hbw.size
  replace oX := oX.stay hn
  replace ltX := oX.lt
  replace oY := oY.stay hn
  replace ltY := oY.lt
  replace oR := oR.stay hn
  replace ltR := oR.lt
  replace oI := oI.stay hn
  replace ltI := oI.lt
  replace oJ := oJ.stay hn
  replace ltJ := oJ.lt
  replace oG := oG.stay hn
  replace ltG := oG.lt
  replace hX := hX.below hn
  replace hY := hY.below hn
  replace hI := hI.below hn
  replace hJ := hJ.below hn
  replace hG := hG.below hn
  replace hL := hL.below hn
  replace hbw := hbw.step hn (Nat.le_refl _)
  clear hn
  have ltL := oL.lt
  go_wp2
  generalize (w3.alloc (.cells #[.bool xL, .slice aL nL cL] 25 (0, 0))) = W3 at hbw oX oY oR oI oJ oG oL ltX ltY ltR ltI ltJ ltG ltL hX hY hI hJ hG hL ⊢
  refine wp_region_M (by kernel_rfl) [10, 11, 24, 25, 26, 27, 28, 29, 30, 31, 32, 33, 34, 35] [none, none, none, none, none, none, none, none, none, none, some 10, some 11, none, none, none, none, none, none, none, none, none, none, none, none, some 24, some 25, some 26, some 27, some 28, some 29, some 30, some 31, some 32, some 33, some 34, some 35] (fun U => by kernel_rfl) (fun L U wr => Below w.heap.size w wr ∧ KeepI W3 wr ∧ W3.heap.size ≤ wr.heap.size ∧ Blk 27 wr (w.heap.size) #[.bool xX, .slice aX nX cX, .bool yX, .slice eX mX fX] ∧ Blk 27 wr (w.heap.size + 1) #[.bool xY, .slice aY nY cY, .bool yY, .slice eY mY fY] ∧ Blk 27 wr (w.heap.size + 1 + 1) #[.bool false, .slice none 0 0, .bool false, .slice none 0 0] ∧ Blk 25 wr (bI) #[.bool xI, .slice aI nI cI] ∧ Blk 25 wr (bJ) #[.bool xJ, .slice aJ nJ cJ] ∧ Blk 25 wr (w2.heap.size) #[.bool xG, .slice aG' nG cG] ∧ Blk 25 wr (w3.heap.size) #[.bool xL, .slice aL nL cL] ∧ (L 0 = true → IS (.pointer (some ⟨w.heap.size, 0, none⟩)) (U 25) wr) ∧ (L 1 = true → IS (.agg #[.bool xX, .slice aX nX cX]) (U 26) wr) ∧ (L 2 = true → IS (.agg #[.bool xJ, .slice aJ nJ cJ]) (U 27) wr) ∧ (L 3 = true → IS (.agg #[.bool xG, .slice aG' nG cG]) (U 28) wr) ∧ (L 4 = true → INT (aD x1 y1) (U 29) wr) ∧ (L 5 = true → IS (.pointer (some ⟨w.heap.size + 1, 0, none⟩)) (U 30) wr) ∧ (L 6 = true → IS (.agg #[.bool xY, .slice aY nY cY]) (U 31) wr) ∧ (L 7 = true → IS (.agg #[.bool xL, .slice aL nL cL]) (U 32) wr) ∧ (L 8 = true → T2 (INT (crZ x1.num (aD x1 y1) y1.num (aB x1 y1))) (IS (.int .i64 (crC x1.num (aD x1 y1) y1.num (aB x1 y1)))) (U 33) wr) ∧ (L 9 = true → T2 (INT (crZ x1.num (aD x1 y1) y1.num (aB x1 y1))) (IS (.int .i64 (crC x1.num (aD x1 y1) y1.num (aB x1 y1)))) (U 24) wr) ∧ (L 10 = true → INT (crZ x1.num (aD x1 y1) y1.num (aB x1 y1)) (U 34) wr) ∧ (L 11 = true → IS (.int .i64 (crC x1.num (aD x1 y1) y1.num (aB x1 y1))) (U 35) wr) ∧ (L 12 = true → NEW 25 W3.heap.size wr (U 10) (bif L 13 then U 34 else .agg #[.bool false, .slice none 0 0])) ∧ (L 14 = true → IS (.int .i64 (crC x1.num (aD x1 y1) y1.num (aB x1 y1))) (U 11) wr) ∧ (L 13 = true → L 10 = true) ∧ (L 13 = true → L 12 = true)) (by kernel_rfl) ?_ ?_ ?_
  · exact fun U => ⟨hbw.drew, KeepI.below (Below.refl _ _).drew, Nat.le_refl _, oX.drew, oY.drew, oR.drew, oI.drew, oJ.drew, oG.drew, oL.drew, (fun h => by cases h), (fun h => by cases h), (fun h => by cases h), (fun h => by cases h), (fun h => by cases h), (fun h => by cases h), (fun h => by cases h), (fun h => by cases h), (fun h => by cases h), (fun h => by cases h), (fun h => by cases h), (fun h => by cases h), (fun h => by cases h), (fun h => by cases h), (fun h => by cases h), (fun h => by cases h)⟩
  · refine StepsU.run rfl ?_ ?_
    · intro L U wr hF hlk haf A K hA hK
      have HA : Hid (A = putAll _ _ U) := hA
      clear hA
      simp [Aft, Region.binds] at haf
      obtain ⟨fb, fk, fs, oX, oY, oR, oI, oJ, oG, oL, f0, f1, f2, f3, f4, f5, f6, f7, f8, f9, f10, f11, f12, f14, s13, m12⟩ := hF
      have e2 : A.tmps[2]? = some (.pointer (some ⟨w.heap.size, 0, none⟩)) := by rw [HA.out]; kernel_rfl
      refine ⟨?_⟩
      go_simp
      refine hK (upd U 25 (.pointer (some ⟨w.heap.size, 0, none⟩))) _ _ ?_ ?_
      · rw [HA.out]; kernel_rfl
      · exact ⟨fb, fk, fs, oX, oY, oR, oI, oJ, oG, oL, (fun _ => rfl), f1, f2, f3, f4, f5, f6, f7, f8, f9, f10, f11, f12, f14, s13, m12⟩
    refine StepsU.run rfl ?_ ?_
    · intro L U wr hF hlk haf A K hA hK
      have HA : Hid (A = putAll _ _ U) := hA
      clear hA
      simp [Aft, Region.binds] at haf
      obtain ⟨fb, fk, fs, oX, oY, oR, oI, oJ, oG, oL, f0, f1, f2, f3, f4, f5, f6, f7, f8, f9, f10, f11, f12, f14, s13, m12⟩ := hF
      have g0 := f0 (by simp [haf])
      have e25 := rd HA.out 25 (by kernel_rfl) g0
      obtain ⟨c0, c1, c2, c3⟩ := oX.four
      refine ⟨?_⟩
      go_simp
      refine hK (upd U 26 (.agg #[.bool xX, .slice aX nX cX])) _ _ ?_ ?_
      · rw [HA.out]; kernel_rfl
      · exact ⟨fb, fk, fs, oX, oY, oR, oI, oJ, oG, oL, f0, (fun _ => rfl), f2, f3, f4, f5, f6, f7, f8, f9, f10, f11, f12, f14, s13, m12⟩
    refine StepsU.run rfl ?_ ?_
    · intro L U wr hF hlk haf A K hA hK
      have HA : Hid (A = putAll _ _ U) := hA
      clear hA
      simp [Aft, Region.binds] at haf
      obtain ⟨fb, fk, fs, oX, oY, oR, oI, oJ, oG, oL, f0, f1, f2, f3, f4, f5, f6, f7, f8, f9, f10, f11, f12, f14, s13, m12⟩ := hF
      have e7 : A.tmps[7]? = some (.pointer (some ⟨bJ, 0, none⟩)) := by rw [HA.out]; kernel_rfl
      obtain ⟨c0, c1, -, -⟩ := oJ.two
      refine ⟨?_⟩
      go_simp
      refine hK (upd U 27 (.agg #[.bool xJ, .slice aJ nJ cJ])) _ _ ?_ ?_
      · rw [HA.out]; kernel_rfl
      · exact ⟨fb, fk, fs, oX, oY, oR, oI, oJ, oG, oL, f0, f1, (fun _ => rfl), f3, f4, f5, f6, f7, f8, f9, f10, f11, f12, f14, s13, m12⟩
    refine StepsU.run rfl ?_ ?_
    · intro L U wr hF hlk haf A K hA hK
      have HA : Hid (A = putAll _ _ U) := hA
      clear hA
      simp [Aft, Region.binds] at haf
      obtain ⟨fb, fk, fs, oX, oY, oR, oI, oJ, oG, oL, f0, f1, f2, f3, f4, f5, f6, f7, f8, f9, f10, f11, f12, f14, s13, m12⟩ := hF
      have e8 : A.tmps[8]? = some (.pointer (some ⟨w2.heap.size, 0, none⟩)) := by rw [HA.out]; kernel_rfl
      obtain ⟨c0, c1, -, -⟩ := oG.two
      refine ⟨?_⟩
      go_simp
      refine hK (upd U 28 (.agg #[.bool xG, .slice aG' nG cG])) _ _ ?_ ?_
      · rw [HA.out]; kernel_rfl
      · exact ⟨fb, fk, fs, oX, oY, oR, oI, oJ, oG, oL, f0, f1, f2, (fun _ => rfl), f4, f5, f6, f7, f8, f9, f10, f11, f12, f14, s13, m12⟩
    refine StepsU.run rfl ?_ ?_
    · intro L U wr hF hlk haf A K hA hK
      have HA : Hid (A = putAll _ _ U) := hA
      clear hA
      simp [Aft, Region.binds] at haf
      obtain ⟨fb, fk, fs, oX, oY, oR, oI, oJ, oG, oL, f0, f1, f2, f3, f4, f5, f6, f7, f8, f9, f10, f11, f12, f14, s13, m12⟩ := hF
      have g2 := f2 (by simp [haf])
      have e27 := rd HA.out 27 (by kernel_rfl) g2
      have g3 := f3 (by simp [haf])
      have e28 := rd HA.out 28 (by kernel_rfl) g3
      refine ⟨?_⟩
      go_simp
      refine (quotient_any _ _ y1.den (aG x1 y1) (aD x1 y1) _ (hJ.keepI fk) (hG.keepI fk) HG.out (aD_def x1 y1)).mono ?_
      rintro e w1 ⟨u1, u2, u3, u4, rfl, hr, hb⟩
      go_simp
      refine hK (upd U 29 (.agg #[.bool u1, .slice u2 u3 u4])) _ _ ?_ ?_
      · rw [HA.out]; kernel_rfl
      · exact ⟨(fb.step hb (Nat.le_refl _)), (fk.trans (KeepI.below hb)), (Nat.le_trans fs hb.size), (oX.stay hb), (oY.stay hb), (oR.stay hb), (oI.stay hb), (oJ.stay hb), (oG.stay hb), (oL.stay hb), (mv mo_is (KeepI.below hb) f0), (mv mo_is (KeepI.below hb) f1), (mv mo_is (KeepI.below hb) f2), (mv mo_is (KeepI.below hb) f3), (fun _ => hr), (mv mo_is (KeepI.below hb) f5), (mv mo_is (KeepI.below hb) f6), (mv mo_is (KeepI.below hb) f7), (mv (mo_t2 mo_int mo_is) (KeepI.below hb) f8), (mv (mo_t2 mo_int mo_is) (KeepI.below hb) f9), (mv mo_int (KeepI.below hb) f10), (mv mo_is (KeepI.below hb) f11), (fun h => (f12 h).below hb), (mv mo_is (KeepI.below hb) f14), s13, m12⟩
    refine StepsU.run rfl ?_ ?_
    · intro L U wr hF hlk haf A K hA hK
      have HA : Hid (A = putAll _ _ U) := hA
      clear hA
      simp [Aft, Region.binds] at haf
      obtain ⟨fb, fk, fs, oX, oY, oR, oI, oJ, oG, oL, f0, f1, f2, f3, f4, f5, f6, f7, f8, f9, f10, f11, f12, f14, s13, m12⟩ := hF
      have e3 : A.tmps[3]? = some (.pointer (some ⟨w.heap.size + 1, 0, none⟩)) := by rw [HA.out]; kernel_rfl
      refine ⟨?_⟩
      go_simp
      refine hK (upd U 30 (.pointer (some ⟨w.heap.size + 1, 0, none⟩))) _ _ ?_ ?_
      · rw [HA.out]; kernel_rfl
      · exact ⟨fb, fk, fs, oX, oY, oR, oI, oJ, oG, oL, f0, f1, f2, f3, f4, (fun _ => rfl), f6, f7, f8, f9, f10, f11, f12, f14, s13, m12⟩
    refine StepsU.run rfl ?_ ?_
    · intro L U wr hF hlk haf A K hA hK
      have HA : Hid (A = putAll _ _ U) := hA
      clear hA
      simp [Aft, Region.binds] at haf
      obtain ⟨fb, fk, fs, oX, oY, oR, oI, oJ, oG, oL, f0, f1, f2, f3, f4, f5, f6, f7, f8, f9, f10, f11, f12, f14, s13, m12⟩ := hF
      have g5 := f5 (by simp [haf])
      have e30 := rd HA.out 30 (by kernel_rfl) g5
      obtain ⟨c0, c1, c2, c3⟩ := oY.four
      refine ⟨?_⟩
      go_simp
      refine hK (upd U 31 (.agg #[.bool xY, .slice aY nY cY])) _ _ ?_ ?_
      · rw [HA.out]; kernel_rfl
      · exact ⟨fb, fk, fs, oX, oY, oR, oI, oJ, oG, oL, f0, f1, f2, f3, f4, f5, (fun _ => rfl), f7, f8, f9, f10, f11, f12, f14, s13, m12⟩
    refine StepsU.run rfl ?_ ?_
    · intro L U wr hF hlk haf A K hA hK
      have HA : Hid (A = putAll _ _ U) := hA
      clear hA
      simp [Aft, Region.binds] at haf
      obtain ⟨fb, fk, fs, oX, oY, oR, oI, oJ, oG, oL, f0, f1, f2, f3, f4, f5, f6, f7, f8, f9, f10, f11, f12, f14, s13, m12⟩ := hF
      have e9 : A.tmps[9]? = some (.pointer (some ⟨w3.heap.size, 0, none⟩)) := by rw [HA.out]; kernel_rfl
      obtain ⟨c0, c1, -, -⟩ := oL.two
      refine ⟨?_⟩
      go_simp
      refine hK (upd U 32 (.agg #[.bool xL, .slice aL nL cL])) _ _ ?_ ?_
      · rw [HA.out]; kernel_rfl
      · exact ⟨fb, fk, fs, oX, oY, oR, oI, oJ, oG, oL, f0, f1, f2, f3, f4, f5, f6, (fun _ => rfl), f8, f9, f10, f11, f12, f14, s13, m12⟩
    refine StepsU.run rfl ?_ ?_
    · intro L U wr hF hlk haf A K hA hK
      have HA : Hid (A = putAll _ _ U) := hA
      clear hA
      simp [Aft, Region.binds] at haf
      obtain ⟨fb, fk, fs, oX, oY, oR, oI, oJ, oG, oL, f0, f1, f2, f3, f4, f5, f6, f7, f8, f9, f10, f11, f12, f14, s13, m12⟩ := hF
      have g1 := f1 (by simp [haf])
      have e26 := rd HA.out 26 (by kernel_rfl) g1
      have g4 := f4 (by simp [haf])
      have e29 := rd HA.out 29 (by kernel_rfl) rfl
      have g6 := f6 (by simp [haf])
      have e31 := rd HA.out 31 (by kernel_rfl) g6
      have g7 := f7 (by simp [haf])
      have e32 := rd HA.out 32 (by kernel_rfl) g7
      refine ⟨?_⟩
      go_simp
      refine (cross_any _ _ _ _ x1.num (aD x1 y1) y1.num (aB x1 y1) _ (hX.1.keepI fk) g4 (hY.1.keepI fk) (hL.keepI fk)).mono ?_
      rintro e w1 ⟨u1, u2, u3, u4, rfl, hr, hb⟩
      go_simp
      refine hK (upd U 33 (.tuple #[.agg #[.bool u1, .slice u2 u3 u4], .int .i64 (crC x1.num (aD x1 y1) y1.num (aB x1 y1))])) _ _ ?_ ?_
      · rw [HA.out]; kernel_rfl
      · exact ⟨(fb.step hb (Nat.le_refl _)), (fk.trans (KeepI.below hb)), (Nat.le_trans fs hb.size), (oX.stay hb), (oY.stay hb), (oR.stay hb), (oI.stay hb), (oJ.stay hb), (oG.stay hb), (oL.stay hb), (mv mo_is (KeepI.below hb) f0), (mv mo_is (KeepI.below hb) f1), (mv mo_is (KeepI.below hb) f2), (mv mo_is (KeepI.below hb) f3), (mv mo_int (KeepI.below hb) f4), (mv mo_is (KeepI.below hb) f5), (mv mo_is (KeepI.below hb) f6), (mv mo_is (KeepI.below hb) f7), (fun _ => ⟨_, _, rfl, hr, rfl⟩), (mv (mo_t2 mo_int mo_is) (KeepI.below hb) f9), (mv mo_int (KeepI.below hb) f10), (mv mo_is (KeepI.below hb) f11), (fun h => (f12 h).below hb), (mv mo_is (KeepI.below hb) f14), s13, m12⟩
    refine StepsU.run rfl ?_ ?_
    · intro L U wr hF hlk haf A K hA hK
      have HA : Hid (A = putAll _ _ U) := hA
      clear hA
      simp [Aft, Region.binds] at haf
      obtain ⟨fb, fk, fs, oX, oY, oR, oI, oJ, oG, oL, f0, f1, f2, f3, f4, f5, f6, f7, f8, f9, f10, f11, f12, f14, s13, m12⟩ := hF
      have g8 := f8 (by simp [haf])
      have e33 := rd HA.out 33 (by kernel_rfl) rfl
      refine ⟨?_⟩
      go_simp
      refine hK (upd U 24 (U 33)) _ _ ?_ ?_
      · rw [HA.out]; kernel_rfl
      · exact ⟨fb, fk, fs, oX, oY, oR, oI, oJ, oG, oL, f0, f1, f2, f3, f4, f5, f6, f7, f8, (fun _ => g8), f10, f11, f12, f14, s13, m12⟩
    refine StepsU.run rfl ?_ ?_
    · intro L U wr hF hlk haf A K hA hK
      have HA : Hid (A = putAll _ _ U) := hA
      clear hA
      simp [Aft, Region.binds] at haf
      obtain ⟨fb, fk, fs, oX, oY, oR, oI, oJ, oG, oL, f0, f1, f2, f3, f4, f5, f6, f7, f8, f9, f10, f11, f12, f14, s13, m12⟩ := hF
      have g9 := f9 (by simp [haf])
      obtain ⟨t0, t1, hT, k0, k1⟩ := g9
      have e24 := rd HA.out 24 (by kernel_rfl) hT
      refine ⟨?_⟩
      go_simp
      have hs13 : L 13 = false := by cases h : L 13 with | false => rfl | true => rw [s13 h] at hlk; cases hlk
      refine hK (upd U 34 t0) _ _ ?_ ?_
      · rw [HA.out]; kernel_rfl
      · exact ⟨fb, fk, fs, oX, oY, oR, oI, oJ, oG, oL, f0, f1, f2, f3, f4, f5, f6, f7, f8, f9, (fun _ => k0), f11, (fun h => flip_v (P := fun v => NEW _ _ _ _ v) hs13 (f12 h)), f14, (fun _ => rfl), m12⟩
    refine StepsU.run rfl ?_ ?_
    · intro L U wr hF hlk haf A K hA hK
      have HA : Hid (A = putAll _ _ U) := hA
      clear hA
      simp [Aft, Region.binds] at haf
      obtain ⟨fb, fk, fs, oX, oY, oR, oI, oJ, oG, oL, f0, f1, f2, f3, f4, f5, f6, f7, f8, f9, f10, f11, f12, f14, s13, m12⟩ := hF
      have g9 := f9 (by simp [haf])
      obtain ⟨t0, t1, hT, k0, k1⟩ := g9
      have e24 := rd HA.out 24 (by kernel_rfl) hT
      refine ⟨?_⟩
      go_simp
      refine hK (upd U 35 t1) _ _ ?_ ?_
      · rw [HA.out]; kernel_rfl
      · exact ⟨fb, fk, fs, oX, oY, oR, oI, oJ, oG, oL, f0, f1, f2, f3, f4, f5, f6, f7, f8, f9, f10, (fun _ => k1), f12, f14, s13, m12⟩
    refine StepsU.run rfl ?_ ?_
    · intro L U wr hF hlk haf A K hA hK
      have HA : Hid (A = putAll _ _ U) := hA
      clear hA
      simp [Aft, Region.binds] at haf
      obtain ⟨fb, fk, fs, oX, oY, oR, oI, oJ, oG, oL, f0, f1, f2, f3, f4, f5, f6, f7, f8, f9, f10, f11, f12, f14, s13, m12⟩ := hF
      have hst : L 13 = false := by cases h : L 13 with | false => rfl | true => rw [m12 h] at hlk; cases hlk
      refine ⟨?_⟩
      go_simp
      have hb := below_new wr (.cells #[.bool false, .slice none 0 0] 25 (0, 0))
      refine hK (upd U 10 (.pointer (some ⟨wr.heap.size, 0, none⟩))) _ _ ?_ ?_
      · rw [HA.out]; kernel_rfl
      · exact ⟨(fb.step hb (Nat.le_refl _)), (fk.trans (KeepI.below hb)), (Nat.le_trans fs hb.size), (oX.stay hb), (oY.stay hb), (oR.stay hb), (oI.stay hb), (oJ.stay hb), (oG.stay hb), (oL.stay hb), (mv mo_is (KeepI.below hb) f0), (mv mo_is (KeepI.below hb) f1), (mv mo_is (KeepI.below hb) f2), (mv mo_is (KeepI.below hb) f3), (mv mo_int (KeepI.below hb) f4), (mv mo_is (KeepI.below hb) f5), (mv mo_is (KeepI.below hb) f6), (mv mo_is (KeepI.below hb) f7), (mv (mo_t2 mo_int mo_is) (KeepI.below hb) f8), (mv (mo_t2 mo_int mo_is) (KeepI.below hb) f9), (mv mo_int (KeepI.below hb) f10), (mv mo_is (KeepI.below hb) f11), (fun _ => new_zero hst (NEW.mk fs (noI2 _ _ _ _))), (mv mo_is (KeepI.below hb) f14), s13, (fun _ => rfl)⟩
    refine StepsU.run rfl ?_ ?_
    · intro L U wr hF hlk haf A K hA hK
      have HA : Hid (A = putAll _ _ U) := hA
      clear hA
      simp [Aft, Region.binds] at haf
      obtain ⟨fb, fk, fs, oX, oY, oR, oI, oJ, oG, oL, f0, f1, f2, f3, f4, f5, f6, f7, f8, f9, f10, f11, f12, f14, s13, m12⟩ := hF
      have g10 := f10 (by simp [haf])
      obtain ⟨px, pa, pn, pc, hsrc⟩ := AInt.shape g10
      have e34 := rd HA.out 34 (by kernel_rfl) hsrc
      have gA := f12 (by simp [haf])
      simp only [hlk, cond_false] at gA
      obtain ⟨b, cs, hp, hBb, hcs, hblk, -⟩ := gA
      injection hcs with hcs
      subst hcs
      have e10 := rd HA.out 10 (by kernel_rfl) hp
      obtain ⟨c0, c1, q0, q1⟩ := hblk.two
      refine ⟨?_⟩
      go_simp
      have hk := keepI_two hblk px pa pn pc
      refine hK U _ _ ?_ ?_
      · exact HA.out
      · exact ⟨(below_store2 fb (Nat.le_trans hbw.size hBb) _ _), (fk.trans hk), (by simpa using fs), (oX.other2 (Nat.ne_of_gt (Nat.lt_of_lt_of_le ltX hBb)) _ _), (oY.other2 (Nat.ne_of_gt (Nat.lt_of_lt_of_le ltY hBb)) _ _), (oR.other2 (Nat.ne_of_gt (Nat.lt_of_lt_of_le ltR hBb)) _ _), (oI.other2 (Nat.ne_of_gt (Nat.lt_of_lt_of_le ltI hBb)) _ _), (oJ.other2 (Nat.ne_of_gt (Nat.lt_of_lt_of_le ltJ hBb)) _ _), (oG.other2 (Nat.ne_of_gt (Nat.lt_of_lt_of_le ltG hBb)) _ _), (oL.other2 (Nat.ne_of_gt (Nat.lt_of_lt_of_le ltL hBb)) _ _), (mv mo_is hk f0), (mv mo_is hk f1), (mv mo_is hk f2), (mv mo_is hk f3), (mv mo_int hk f4), (mv mo_is hk f5), (mv mo_is hk f6), (mv mo_is hk f7), (mv (mo_t2 mo_int mo_is) hk f8), (mv (mo_t2 mo_int mo_is) hk f9), (mv mo_int hk f10), (mv mo_is hk f11), (fun _ => stored_new hp hsrc (NEW.over2 hBb hblk px pa pn pc)), (mv mo_is hk f14), (fun _ => by simp [haf]), (fun _ => by simp [haf])⟩
    refine StepsU.run rfl ?_ StepsU.nil
    · intro L U wr hF hlk haf A K hA hK
      have HA : Hid (A = putAll _ _ U) := hA
      clear hA
      simp [Aft, Region.binds] at haf
      obtain ⟨fb, fk, fs, oX, oY, oR, oI, oJ, oG, oL, f0, f1, f2, f3, f4, f5, f6, f7, f8, f9, f10, f11, f12, f14, s13, m12⟩ := hF
      have g11 := f11 (by simp [haf])
      have e35 := rd HA.out 35 (by kernel_rfl) rfl
      refine ⟨?_⟩
      go_simp
      refine hK (upd U 11 (U 35)) _ _ ?_ ?_
      · rw [HA.out]; kernel_rfl
      · exact ⟨fb, fk, fs, oX, oY, oR, oI, oJ, oG, oL, f0, f1, f2, f3, f4, f5, f6, f7, f8, f9, f10, f11, f12, (fun _ => g11), s13, m12⟩
  intro L U4 V4 hall hF
  have hbw0 := hbw
  clear hbw
  obtain ⟨hbw, fk, fs, oX, oY, oR, oI, oJ, oG, oL, f0, f1, f2, f3, f4, f5, f6, f7, f8, f9, f10, f11, f12, f14, s13, m12⟩ := hF
  clear s13 m12
  have g0 := f0 (hall 0 (by decide))
  have g1 := f1 (hall 1 (by decide))
  have g2 := f2 (hall 2 (by decide))
  have g3 := f3 (hall 3 (by decide))
  have g4 := f4 (hall 4 (by decide))
  have g5 := f5 (hall 5 (by decide))
  have g6 := f6 (hall 6 (by decide))
  have g7 := f7 (hall 7 (by decide))
  have g8 := f8 (hall 8 (by decide))
  have g9 := f9 (hall 9 (by decide))
  have g10 := f10 (hall 10 (by decide))
  have g11 := f11 (hall 11 (by decide))
  have g12 := f12 (hall 12 (by decide))
  rw [hall 13 (by decide), cond_true] at g12
  have g14 := f14 (hall 14 (by decide))
  clear hall f0 f1 f2 f3 f4 f5 f6 f7 f8 f9 f10 f11 f12 f14
  replace hX := hX.keepI fk
  replace hY := hY.keepI fk
  replace hI := hI.keepI fk
  replace hJ := hJ.keepI fk
  replace hG := hG.keepI fk
  replace hL := hL.keepI fk
  obtain ⟨bM, csM, hpM, lbM, hcsM, oM, -⟩ := g12
  obtain ⟨xM, aM, nM, cM, hvM⟩ := AInt.shape g10
  have hM : AInt _ _ _ := g10
  rw [hvM] at hM
  rw [hvM] at hcsM
  injection hcsM with hcsM
  subst hcsM
  have ltM := oM.lt
  have neXM : w.heap.size ≠ bM := Nat.ne_of_lt (Nat.lt_of_lt_of_le ltX lbM)
  have neYM : w.heap.size + 1 ≠ bM := Nat.ne_of_lt (Nat.lt_of_lt_of_le ltY lbM)
  have neRM : w.heap.size + 1 + 1 ≠ bM := Nat.ne_of_lt (Nat.lt_of_lt_of_le ltR lbM)
  have neIM : bI ≠ bM := Nat.ne_of_lt (Nat.lt_of_lt_of_le ltI lbM)
  have neJM : bJ ≠ bM := Nat.ne_of_lt (Nat.lt_of_lt_of_le ltJ lbM)
  have neGM : w2.heap.size ≠ bM := Nat.ne_of_lt (Nat.lt_of_lt_of_le ltG lbM)
  have neLM : w3.heap.size ≠ bM := Nat.ne_of_lt (Nat.lt_of_lt_of_le ltL lbM)
  have lwM : w.heap.size ≤ bM := Nat.le_trans hbw0.size lbM
  clear lbM
  replace ltX := Nat.lt_of_lt_of_le ltX fs
  replace ltY := Nat.lt_of_lt_of_le ltY fs
  replace ltR := Nat.lt_of_lt_of_le ltR fs
  replace ltI := Nat.lt_of_lt_of_le ltI fs
  replace ltJ := Nat.lt_of_lt_of_le ltJ fs
  replace ltG := Nat.lt_of_lt_of_le ltG fs
  replace ltL := Nat.lt_of_lt_of_le ltL fs
  clear g0
  clear g1
  clear g2
  clear g3
  clear g4
  clear g5
  clear g6
  clear g7
  clear g8
  clear g9
  clear g10
  clear g11
  clear hbw0
  simp only [setM_some, setM_none, setM_nil]
  rw [hpM]
  clear hpM hvM
  clear fk fs
  have eC : U4 11 = _ := g14
  clear g14
  rw [eC]
  clear eC
  by_cases gF : crFits x1.num (aD x1 y1) y1.num (aB x1 y1)
  · have EC := crC_yes gF
    rw [crZ_yes gF, aT_def x1 y1] at hM
    have HF : Hid (crFits x1.num (aD x1 y1) y1.num (aB x1 y1)) := gF
    clear gF
    obtain ⟨Mc0, Mc1, Mq0, Mq1⟩ := oM.two
    obtain ⟨Gc0, Gc1, Gq0, Gq1⟩ := oG.two
    go_wp2_with fail
    refine (gcd_h _ _ (aT x1 y1) (aG x1 y1) (aH x1 y1) _ hM hG (aH_def x1 y1)).mono ?_
    rintro e w5 ⟨xH, aH', nH, cH, rfl, hH, hb⟩
    clear Mc0 Mc1 Mq0 Mq1
    clear Gc0 Gc1 Gq0 Gq1
    replace oX := oX.stay hb
    replace ltX := oX.lt
    replace oY := oY.stay hb
    replace ltY := oY.lt
    replace oR := oR.stay hb
    replace ltR := oR.lt
    replace oI := oI.stay hb
    replace ltI := oI.lt
    replace oJ := oJ.stay hb
    replace ltJ := oJ.lt
    replace oG := oG.stay hb
    replace ltG := oG.lt
    replace oL := oL.stay hb
    replace ltL := oL.lt
    replace oM := oM.stay hb
    replace ltM := oM.lt
    replace hX := hX.below hb
    replace hY := hY.below hb
    replace hI := hI.below hb
    replace hJ := hJ.below hb
    replace hG := hG.below hb
    replace hL := hL.below hb
    replace hM := hM.below hb
    replace hbw := hbw.step hb (Nat.le_refl _)
    clear hb
    have hn := below_new w5 (.cells #[.bool xH, .slice aH' nH cH] 25 (0, 0))
    have oH := Blk.new w5 25 #[.bool xH, .slice aH' nH cH]
    have neXH : w.heap.size ≠ w5.heap.size := Nat.ne_of_lt ltX
    have neYH : w.heap.size + 1 ≠ w5.heap.size := Nat.ne_of_lt ltY
    have neRH : w.heap.size + 1 + 1 ≠ w5.heap.size := Nat.ne_of_lt ltR
    have neIH : bI ≠ w5.heap.size := Nat.ne_of_lt ltI
    have neJH : bJ ≠ w5.heap.size := Nat.ne_of_lt ltJ
    have neGH : w2.heap.size ≠ w5.heap.size := Nat.ne_of_lt ltG
    have neLH : w3.heap.size ≠ w5.heap.size := Nat.ne_of_lt ltL
    have neMH : bM ≠ w5.heap.size := Nat.ne_of_lt ltM
    have lwH : w.heap.size ≤ w5.heap.size := hbw.size
    replace oX := oX.stay hn
    replace ltX := oX.lt
    replace oY := oY.stay hn
    replace ltY := oY.lt
    replace oR := oR.stay hn
    replace ltR := oR.lt
    replace oI := oI.stay hn
    replace ltI := oI.lt
    replace oJ := oJ.stay hn
    replace ltJ := oJ.lt
    replace oG := oG.stay hn
    replace ltG := oG.lt
    replace oL := oL.stay hn
    replace ltL := oL.lt
    replace oM := oM.stay hn
    replace ltM := oM.lt
    replace hX := hX.below hn
    replace hY := hY.below hn
    replace hI := hI.below hn
    replace hJ := hJ.below hn
    replace hG := hG.below hn
    replace hL := hL.below hn
    replace hM := hM.below hn
    replace hH := hH.below hn
    replace hbw := hbw.step hn (Nat.le_refl _)
    clear hn
    have ltH := oH.lt
    have HH : Hid (aH x1 y1 ≠ 0) := Int.ne_of_gt (aH_pos x1 y1)
    go_wp2
    generalize (w5.alloc (.cells #[.bool xH, .slice aH' nH cH] 25 (0, 0))) = W5 at hbw oX oY oR oI oJ oG oL oM oH ltX ltY ltR ltI ltJ ltG ltL ltM ltH hX hY hI hJ hG hL hM hH ⊢
    refine wp_region_M (by kernel_rfl) [11, 13, 43, 44, 45, 46, 47, 48, 49, 50] [none, none, none, none, none, none, none, none, none, none, none, some 11, none, some 13, none, none, none, none, none, none, none, none, none, none, none, none, none, none, none, none, none, none, none, none, none, none, none, none, none, none, none, none, none, some 43, some 44, some 45, some 46, some 47, some 48, some 49, some 50] (fun U => by kernel_rfl) (fun L U wr => Below w.heap.size w wr ∧ KeepI W5 wr ∧ W5.heap.size ≤ wr.heap.size ∧ Blk 27 wr (w.heap.size + 1 + 1) #[.bool false, .slice none 0 0, .bool false, .slice none 0 0] ∧ Blk 25 wr (bM) #[.bool xM, .slice aM nM cM] ∧ Blk 25 wr (w5.heap.size) #[.bool xH, .slice aH' nH cH] ∧ Blk 25 wr (w2.heap.size) #[.bool xG, .slice aG' nG cG] ∧ Blk 25 wr (w3.heap.size) #[.bool xL, .slice aL nL cL] ∧ Blk 25 wr (bJ) #[.bool xJ, .slice aJ nJ cJ] ∧ (L 0 = true → IS (.agg #[.bool xL, .slice aL nL cL]) (U 44) wr) ∧ (L 1 = true → IS (.agg #[.bool xJ, .slice aJ nJ cJ]) (U 45) wr) ∧ (L 2 = true → IS (.agg #[.bool xH, .slice aH' nH cH]) (U 46) wr) ∧ (L 3 = true → INT (aK x1 y1) (U 47) wr) ∧ (L 4 = true → T2 (INT (hz (aB x1 y1 * aK x1 y1))) (IS (.int .i64 (ec (aB x1 y1 * aK x1 y1)))) (U 48) wr) ∧ (L 5 = true → T2 (INT (hz (aB x1 y1 * aK x1 y1))) (IS (.int .i64 (ec (aB x1 y1 * aK x1 y1)))) (U 43) wr) ∧ (L 6 = true → INT (hz (aB x1 y1 * aK x1 y1)) (U 49) wr) ∧ (L 7 = true → IS (.int .i64 (ec (aB x1 y1 * aK x1 y1))) (U 50) wr) ∧ (L 8 = true → NEW 25 W5.heap.size wr (U 13) (bif L 9 then U 49 else .agg #[.bool false, .slice none 0 0])) ∧ (L 10 = true → IS (.int .i64 (ec (aB x1 y1 * aK x1 y1))) (U 11) wr) ∧ (L 9 = true → L 6 = true) ∧ (L 9 = true → L 8 = true)) (by kernel_rfl) ?_ ?_ ?_
    · exact fun U => ⟨hbw.drew, KeepI.below (Below.refl _ _).drew, Nat.le_refl _, oR.drew, oM.drew, oH.drew, oG.drew, oL.drew, oJ.drew, (fun h => by cases h), (fun h => by cases h), (fun h => by cases h), (fun h => by cases h), (fun h => by cases h), (fun h => by cases h), (fun h => by cases h), (fun h => by cases h), (fun h => by cases h), (fun h => by cases h), (fun h => by cases h), (fun h => by cases h)⟩
    · refine StepsU.run rfl ?_ ?_
      · intro L U wr hF hlk haf A K hA hK
        have HA : Hid (A = putAll _ _ U) := hA
        clear hA
        simp [Aft, Region.binds] at haf
        obtain ⟨fb, fk, fs, oR, oM, oH, oG, oL, oJ, f0, f1, f2, f3, f4, f5, f6, f7, f8, f10, s9, m8⟩ := hF
        have e9 : A.tmps[9]? = some (.pointer (some ⟨w3.heap.size, 0, none⟩)) := by rw [HA.out]; kernel_rfl
        obtain ⟨c0, c1, -, -⟩ := oL.two
        refine ⟨?_⟩
        go_simp
        refine hK (upd U 44 (.agg #[.bool xL, .slice aL nL cL])) _ _ ?_ ?_
        · rw [HA.out]; kernel_rfl
        · exact ⟨fb, fk, fs, oR, oM, oH, oG, oL, oJ, (fun _ => rfl), f1, f2, f3, f4, f5, f6, f7, f8, f10, s9, m8⟩
      refine StepsU.run rfl ?_ ?_
      · intro L U wr hF hlk haf A K hA hK
        have HA : Hid (A = putAll _ _ U) := hA
        clear hA
        simp [Aft, Region.binds] at haf
        obtain ⟨fb, fk, fs, oR, oM, oH, oG, oL, oJ, f0, f1, f2, f3, f4, f5, f6, f7, f8, f10, s9, m8⟩ := hF
        have e7 : A.tmps[7]? = some (.pointer (some ⟨bJ, 0, none⟩)) := by rw [HA.out]; kernel_rfl
        obtain ⟨c0, c1, -, -⟩ := oJ.two
        refine ⟨?_⟩
        go_simp
        refine hK (upd U 45 (.agg #[.bool xJ, .slice aJ nJ cJ])) _ _ ?_ ?_
        · rw [HA.out]; kernel_rfl
        · exact ⟨fb, fk, fs, oR, oM, oH, oG, oL, oJ, f0, (fun _ => rfl), f2, f3, f4, f5, f6, f7, f8, f10, s9, m8⟩
      refine StepsU.run rfl ?_ ?_
      · intro L U wr hF hlk haf A K hA hK
        have HA : Hid (A = putAll _ _ U) := hA
        clear hA
        simp [Aft, Region.binds] at haf
        obtain ⟨fb, fk, fs, oR, oM, oH, oG, oL, oJ, f0, f1, f2, f3, f4, f5, f6, f7, f8, f10, s9, m8⟩ := hF
        have e12 : A.tmps[12]? = some (.pointer (some ⟨w5.heap.size, 0, none⟩)) := by rw [HA.out]; kernel_rfl
        obtain ⟨c0, c1, -, -⟩ := oH.two
        refine ⟨?_⟩
        go_simp
        refine hK (upd U 46 (.agg #[.bool xH, .slice aH' nH cH])) _ _ ?_ ?_
        · rw [HA.out]; kernel_rfl
        · exact ⟨fb, fk, fs, oR, oM, oH, oG, oL, oJ, f0, f1, (fun _ => rfl), f3, f4, f5, f6, f7, f8, f10, s9, m8⟩
      refine StepsU.run rfl ?_ ?_
      · intro L U wr hF hlk haf A K hA hK
        have HA : Hid (A = putAll _ _ U) := hA
        clear hA
        simp [Aft, Region.binds] at haf
        obtain ⟨fb, fk, fs, oR, oM, oH, oG, oL, oJ, f0, f1, f2, f3, f4, f5, f6, f7, f8, f10, s9, m8⟩ := hF
        have g1 := f1 (by simp [haf])
        have e45 := rd HA.out 45 (by kernel_rfl) g1
        have g2 := f2 (by simp [haf])
        have e46 := rd HA.out 46 (by kernel_rfl) g2
        refine ⟨?_⟩
        go_simp
        refine (quotient_any _ _ y1.den (aH x1 y1) (aK x1 y1) _ (hJ.keepI fk) (hH.keepI fk) HH.out (aK_def x1 y1)).mono ?_
        rintro e w1 ⟨u1, u2, u3, u4, rfl, hr, hb⟩
        go_simp
        refine hK (upd U 47 (.agg #[.bool u1, .slice u2 u3 u4])) _ _ ?_ ?_
        · rw [HA.out]; kernel_rfl
        · exact ⟨(fb.step hb (Nat.le_refl _)), (fk.trans (KeepI.below hb)), (Nat.le_trans fs hb.size), (oR.stay hb), (oM.stay hb), (oH.stay hb), (oG.stay hb), (oL.stay hb), (oJ.stay hb), (mv mo_is (KeepI.below hb) f0), (mv mo_is (KeepI.below hb) f1), (mv mo_is (KeepI.below hb) f2), (fun _ => hr), (mv (mo_t2 mo_int mo_is) (KeepI.below hb) f4), (mv (mo_t2 mo_int mo_is) (KeepI.below hb) f5), (mv mo_int (KeepI.below hb) f6), (mv mo_is (KeepI.below hb) f7), (fun h => (f8 h).below hb), (mv mo_is (KeepI.below hb) f10), s9, m8⟩
      refine StepsU.run rfl ?_ ?_
      · intro L U wr hF hlk haf A K hA hK
        have HA : Hid (A = putAll _ _ U) := hA
        clear hA
        simp [Aft, Region.binds] at haf
        obtain ⟨fb, fk, fs, oR, oM, oH, oG, oL, oJ, f0, f1, f2, f3, f4, f5, f6, f7, f8, f10, s9, m8⟩ := hF
        have g0 := f0 (by simp [haf])
        have e44 := rd HA.out 44 (by kernel_rfl) g0
        have g3 := f3 (by simp [haf])
        have e47 := rd HA.out 47 (by kernel_rfl) rfl
        refine ⟨?_⟩
        go_simp
        refine (mul_h _ _ (aB x1 y1) (aK x1 y1) _ (hL.keepI fk) g3).mono ?_
        rintro e w1 ⟨u1, u2, u3, u4, rfl, hr, hb⟩
        go_simp
        refine hK (upd U 48 (.tuple #[.agg #[.bool u1, .slice u2 u3 u4], .int .i64 (ec (aB x1 y1 * aK x1 y1))])) _ _ ?_ ?_
        · rw [HA.out]; kernel_rfl
        · exact ⟨(fb.step hb (Nat.le_refl _)), (fk.trans (KeepI.below hb)), (Nat.le_trans fs hb.size), (oR.stay hb), (oM.stay hb), (oH.stay hb), (oG.stay hb), (oL.stay hb), (oJ.stay hb), (mv mo_is (KeepI.below hb) f0), (mv mo_is (KeepI.below hb) f1), (mv mo_is (KeepI.below hb) f2), (mv mo_int (KeepI.below hb) f3), (fun _ => ⟨_, _, rfl, hr, rfl⟩), (mv (mo_t2 mo_int mo_is) (KeepI.below hb) f5), (mv mo_int (KeepI.below hb) f6), (mv mo_is (KeepI.below hb) f7), (fun h => (f8 h).below hb), (mv mo_is (KeepI.below hb) f10), s9, m8⟩
      refine StepsU.run rfl ?_ ?_
      · intro L U wr hF hlk haf A K hA hK
        have HA : Hid (A = putAll _ _ U) := hA
        clear hA
        simp [Aft, Region.binds] at haf
        obtain ⟨fb, fk, fs, oR, oM, oH, oG, oL, oJ, f0, f1, f2, f3, f4, f5, f6, f7, f8, f10, s9, m8⟩ := hF
        have g4 := f4 (by simp [haf])
        have e48 := rd HA.out 48 (by kernel_rfl) rfl
        refine ⟨?_⟩
        go_simp
        refine hK (upd U 43 (U 48)) _ _ ?_ ?_
        · rw [HA.out]; kernel_rfl
        · exact ⟨fb, fk, fs, oR, oM, oH, oG, oL, oJ, f0, f1, f2, f3, f4, (fun _ => g4), f6, f7, f8, f10, s9, m8⟩
      refine StepsU.run rfl ?_ ?_
      · intro L U wr hF hlk haf A K hA hK
        have HA : Hid (A = putAll _ _ U) := hA
        clear hA
        simp [Aft, Region.binds] at haf
        obtain ⟨fb, fk, fs, oR, oM, oH, oG, oL, oJ, f0, f1, f2, f3, f4, f5, f6, f7, f8, f10, s9, m8⟩ := hF
        have g5 := f5 (by simp [haf])
        obtain ⟨t0, t1, hT, k0, k1⟩ := g5
        have e43 := rd HA.out 43 (by kernel_rfl) hT
        refine ⟨?_⟩
        go_simp
        have hs9 : L 9 = false := by cases h : L 9 with | false => rfl | true => rw [s9 h] at hlk; cases hlk
        refine hK (upd U 49 t0) _ _ ?_ ?_
        · rw [HA.out]; kernel_rfl
        · exact ⟨fb, fk, fs, oR, oM, oH, oG, oL, oJ, f0, f1, f2, f3, f4, f5, (fun _ => k0), f7, (fun h => flip_v (P := fun v => NEW _ _ _ _ v) hs9 (f8 h)), f10, (fun _ => rfl), m8⟩
      refine StepsU.run rfl ?_ ?_
      · intro L U wr hF hlk haf A K hA hK
        have HA : Hid (A = putAll _ _ U) := hA
        clear hA
        simp [Aft, Region.binds] at haf
        obtain ⟨fb, fk, fs, oR, oM, oH, oG, oL, oJ, f0, f1, f2, f3, f4, f5, f6, f7, f8, f10, s9, m8⟩ := hF
        have g5 := f5 (by simp [haf])
        obtain ⟨t0, t1, hT, k0, k1⟩ := g5
        have e43 := rd HA.out 43 (by kernel_rfl) hT
        refine ⟨?_⟩
        go_simp
        refine hK (upd U 50 t1) _ _ ?_ ?_
        · rw [HA.out]; kernel_rfl
        · exact ⟨fb, fk, fs, oR, oM, oH, oG, oL, oJ, f0, f1, f2, f3, f4, f5, f6, (fun _ => k1), f8, f10, s9, m8⟩
      refine StepsU.run rfl ?_ ?_
      · intro L U wr hF hlk haf A K hA hK
        have HA : Hid (A = putAll _ _ U) := hA
        clear hA
        simp [Aft, Region.binds] at haf
        obtain ⟨fb, fk, fs, oR, oM, oH, oG, oL, oJ, f0, f1, f2, f3, f4, f5, f6, f7, f8, f10, s9, m8⟩ := hF
        have hst : L 9 = false := by cases h : L 9 with | false => rfl | true => rw [m8 h] at hlk; cases hlk
        refine ⟨?_⟩
        go_simp
        have hb := below_new wr (.cells #[.bool false, .slice none 0 0] 25 (0, 0))
        refine hK (upd U 13 (.pointer (some ⟨wr.heap.size, 0, none⟩))) _ _ ?_ ?_
        · rw [HA.out]; kernel_rfl
        · exact ⟨(fb.step hb (Nat.le_refl _)), (fk.trans (KeepI.below hb)), (Nat.le_trans fs hb.size), (oR.stay hb), (oM.stay hb), (oH.stay hb), (oG.stay hb), (oL.stay hb), (oJ.stay hb), (mv mo_is (KeepI.below hb) f0), (mv mo_is (KeepI.below hb) f1), (mv mo_is (KeepI.below hb) f2), (mv mo_int (KeepI.below hb) f3), (mv (mo_t2 mo_int mo_is) (KeepI.below hb) f4), (mv (mo_t2 mo_int mo_is) (KeepI.below hb) f5), (mv mo_int (KeepI.below hb) f6), (mv mo_is (KeepI.below hb) f7), (fun _ => new_zero hst (NEW.mk fs (noI2 _ _ _ _))), (mv mo_is (KeepI.below hb) f10), s9, (fun _ => rfl)⟩
      refine StepsU.run rfl ?_ ?_
      · intro L U wr hF hlk haf A K hA hK
        have HA : Hid (A = putAll _ _ U) := hA
        clear hA
        simp [Aft, Region.binds] at haf
        obtain ⟨fb, fk, fs, oR, oM, oH, oG, oL, oJ, f0, f1, f2, f3, f4, f5, f6, f7, f8, f10, s9, m8⟩ := hF
        have g6 := f6 (by simp [haf])
        obtain ⟨px, pa, pn, pc, hsrc⟩ := AInt.shape g6
        have e49 := rd HA.out 49 (by kernel_rfl) hsrc
        have gA := f8 (by simp [haf])
        simp only [hlk, cond_false] at gA
        obtain ⟨b, cs, hp, hBb, hcs, hblk, -⟩ := gA
        injection hcs with hcs
        subst hcs
        have e13 := rd HA.out 13 (by kernel_rfl) hp
        obtain ⟨c0, c1, q0, q1⟩ := hblk.two
        refine ⟨?_⟩
        go_simp
        have hk := keepI_two hblk px pa pn pc
        refine hK U _ _ ?_ ?_
        · exact HA.out
        · exact ⟨(below_store2 fb (Nat.le_trans hbw.size hBb) _ _), (fk.trans hk), (by simpa using fs), (oR.other2 (Nat.ne_of_gt (Nat.lt_of_lt_of_le ltR hBb)) _ _), (oM.other2 (Nat.ne_of_gt (Nat.lt_of_lt_of_le ltM hBb)) _ _), (oH.other2 (Nat.ne_of_gt (Nat.lt_of_lt_of_le ltH hBb)) _ _), (oG.other2 (Nat.ne_of_gt (Nat.lt_of_lt_of_le ltG hBb)) _ _), (oL.other2 (Nat.ne_of_gt (Nat.lt_of_lt_of_le ltL hBb)) _ _), (oJ.other2 (Nat.ne_of_gt (Nat.lt_of_lt_of_le ltJ hBb)) _ _), (mv mo_is hk f0), (mv mo_is hk f1), (mv mo_is hk f2), (mv mo_int hk f3), (mv (mo_t2 mo_int mo_is) hk f4), (mv (mo_t2 mo_int mo_is) hk f5), (mv mo_int hk f6), (mv mo_is hk f7), (fun _ => stored_new hp hsrc (NEW.over2 hBb hblk px pa pn pc)), (mv mo_is hk f10), (fun _ => by simp [haf]), (fun _ => by simp [haf])⟩
      refine StepsU.run rfl ?_ StepsU.nil
      · intro L U wr hF hlk haf A K hA hK
        have HA : Hid (A = putAll _ _ U) := hA
        clear hA
        simp [Aft, Region.binds] at haf
        obtain ⟨fb, fk, fs, oR, oM, oH, oG, oL, oJ, f0, f1, f2, f3, f4, f5, f6, f7, f8, f10, s9, m8⟩ := hF
        have g7 := f7 (by simp [haf])
        have e50 := rd HA.out 50 (by kernel_rfl) rfl
        refine ⟨?_⟩
        go_simp
        refine hK (upd U 11 (U 50)) _ _ ?_ ?_
        · rw [HA.out]; kernel_rfl
        · exact ⟨fb, fk, fs, oR, oM, oH, oG, oL, oJ, f0, f1, f2, f3, f4, f5, f6, f7, f8, (fun _ => g7), s9, m8⟩
    intro L U6 V6 hall hF
    have hbw0 := hbw
    clear hbw
    obtain ⟨hbw, fk, fs, oR, oM, oH, oG, oL, oJ, f0, f1, f2, f3, f4, f5, f6, f7, f8, f10, s9, m8⟩ := hF
    clear s9 m8
    have g0 := f0 (hall 0 (by decide))
    have g1 := f1 (hall 1 (by decide))
    have g2 := f2 (hall 2 (by decide))
    have g3 := f3 (hall 3 (by decide))
    have g4 := f4 (hall 4 (by decide))
    have g5 := f5 (hall 5 (by decide))
    have g6 := f6 (hall 6 (by decide))
    have g7 := f7 (hall 7 (by decide))
    have g8 := f8 (hall 8 (by decide))
    rw [hall 9 (by decide), cond_true] at g8
    have g10 := f10 (hall 10 (by decide))
    clear hall f0 f1 f2 f3 f4 f5 f6 f7 f8 f10
    replace hX := hX.keepI fk
    replace hY := hY.keepI fk
    replace hI := hI.keepI fk
    replace hJ := hJ.keepI fk
    replace hG := hG.keepI fk
    replace hL := hL.keepI fk
    replace hM := hM.keepI fk
    replace hH := hH.keepI fk
    obtain ⟨bN, csN, hpN, lbN, hcsN, oN, -⟩ := g8
    obtain ⟨xN, aN, nN, cN, hvN⟩ := AInt.shape g6
    have hN : AInt _ _ _ := g6
    rw [hvN] at hN
    rw [hvN] at hcsN
    injection hcsN with hcsN
    subst hcsN
    have ltN := oN.lt
    have neRN : w.heap.size + 1 + 1 ≠ bN := Nat.ne_of_lt (Nat.lt_of_lt_of_le ltR lbN)
    have neMN : bM ≠ bN := Nat.ne_of_lt (Nat.lt_of_lt_of_le ltM lbN)
    have neHN : w5.heap.size ≠ bN := Nat.ne_of_lt (Nat.lt_of_lt_of_le ltH lbN)
    have neGN : w2.heap.size ≠ bN := Nat.ne_of_lt (Nat.lt_of_lt_of_le ltG lbN)
    have neLN : w3.heap.size ≠ bN := Nat.ne_of_lt (Nat.lt_of_lt_of_le ltL lbN)
    have neJN : bJ ≠ bN := Nat.ne_of_lt (Nat.lt_of_lt_of_le ltJ lbN)
    have lwN : w.heap.size ≤ bN := Nat.le_trans hbw0.size lbN
    clear lbN
    replace ltR := Nat.lt_of_lt_of_le ltR fs
    replace ltM := Nat.lt_of_lt_of_le ltM fs
    replace ltH := Nat.lt_of_lt_of_le ltH fs
    replace ltG := Nat.lt_of_lt_of_le ltG fs
    replace ltL := Nat.lt_of_lt_of_le ltL fs
    replace ltJ := Nat.lt_of_lt_of_le ltJ fs
    clear g0
    clear g1
    clear g2
    clear g3
    clear g4
    clear g5
    clear g6
    clear g7
    clear hbw0
    simp only [setM_some, setM_none, setM_nil]
    rw [hpN]
    clear hpN hvN
    clear ltX oX
    clear ltY oY
    clear ltI oI
    clear fk fs
    have eC : U6 11 = _ := g10
    clear g10
    rw [eC]
    clear eC
    by_cases gK : (aB x1 y1 * aK x1 y1).natAbs < lim
    · have EK := ec_of gK
      rw [hz_of gK] at hN
      have HA : Hid (aFits lim x1 y1) := ⟨HF.out.1, HF.out.2.1, HF.out.2.2, gK⟩
      clear gK
      go_wp2
      have rR := oR
      clear oR
      have geR : w.heap.size ≤ w.heap.size + 1 + 1 := by omega
      refine wp_region_M (by kernel_rfl) [5, 55, 56, 57, 58, 59] [none, none, none, none, none, some 5, none, none, none, none, none, none, none, none, none, none, none, none, none, none, none, none, none, none, none, none, none, none, none, none, none, none, none, none, none, none, none, none, none, none, none, none, none, none, none, none, none, none, none, none, none, none, none, none, none, some 55, some 56, some 57, some 58, some 59] (fun U => by kernel_rfl) (fun L U wr => Below w.heap.size w wr ∧ KeepI V6 wr ∧ V6.heap.size ≤ wr.heap.size ∧ Blk 25 wr (bM) #[.bool xM, .slice aM nM cM] ∧ Blk 25 wr (w5.heap.size) #[.bool xH, .slice aH' nH cH] ∧ Blk 25 wr (bN) #[.bool xN, .slice aN nN cN] ∧ BlkV 27 wr (w.heap.size + 1 + 1) (bif L 5 then U 59 else .agg #[.bool false, .slice none 0 0, .bool false, .slice none 0 0]) ∧ (L 0 = true → IS (.agg #[.bool xM, .slice aM nM cM]) (U 55) wr) ∧ (L 1 = true → IS (.agg #[.bool xH, .slice aH' nH cH]) (U 56) wr) ∧ (L 2 = true → INT ((aT x1 y1).fdiv (aH x1 y1)) (U 57) wr) ∧ (L 3 = true → IS (.agg #[.bool xN, .slice aN nN cN]) (U 58) wr) ∧ (L 4 = true → RAT (x1 + y1) (U 59) wr) ∧ (L 6 = true → IS (.int .i64 0) (U 5) wr) ∧ (L 5 = true → L 4 = true)) (by kernel_rfl) ?_ ?_ ?_
      · exact fun U => ⟨hbw.drew, KeepI.below (Below.refl _ _).drew, Nat.le_refl _, oM.drew, oH.drew, oN.drew, ⟨_, rfl, rR.drew⟩, (fun h => by cases h), (fun h => by cases h), (fun h => by cases h), (fun h => by cases h), (fun h => by cases h), (fun h => by cases h), (fun h => by cases h)⟩
      · refine StepsU.run rfl ?_ ?_
        · intro L U wr hF hlk haf A K hA hK
          have HA : Hid (A = putAll _ _ U) := hA
          clear hA
          simp [Aft, Region.binds] at haf
          obtain ⟨fb, fk, fs, oM, oH, oN, rR, f0, f1, f2, f3, f4, f6, s5⟩ := hF
          have e10 : A.tmps[10]? = some (.pointer (some ⟨bM, 0, none⟩)) := by rw [HA.out]; kernel_rfl
          obtain ⟨c0, c1, -, -⟩ := oM.two
          refine ⟨?_⟩
          go_simp
          refine hK (upd U 55 (.agg #[.bool xM, .slice aM nM cM])) _ _ ?_ ?_
          · rw [HA.out]; kernel_rfl
          · exact ⟨fb, fk, fs, oM, oH, oN, rR, (fun _ => rfl), f1, f2, f3, f4, f6, s5⟩
        refine StepsU.run rfl ?_ ?_
        · intro L U wr hF hlk haf A K hA hK
          have HA : Hid (A = putAll _ _ U) := hA
          clear hA
          simp [Aft, Region.binds] at haf
          obtain ⟨fb, fk, fs, oM, oH, oN, rR, f0, f1, f2, f3, f4, f6, s5⟩ := hF
          have e12 : A.tmps[12]? = some (.pointer (some ⟨w5.heap.size, 0, none⟩)) := by rw [HA.out]; kernel_rfl
          obtain ⟨c0, c1, -, -⟩ := oH.two
          refine ⟨?_⟩
          go_simp
          refine hK (upd U 56 (.agg #[.bool xH, .slice aH' nH cH])) _ _ ?_ ?_
          · rw [HA.out]; kernel_rfl
          · exact ⟨fb, fk, fs, oM, oH, oN, rR, f0, (fun _ => rfl), f2, f3, f4, f6, s5⟩
        refine StepsU.run rfl ?_ ?_
        · intro L U wr hF hlk haf A K hA hK
          have HA : Hid (A = putAll _ _ U) := hA
          clear hA
          simp [Aft, Region.binds] at haf
          obtain ⟨fb, fk, fs, oM, oH, oN, rR, f0, f1, f2, f3, f4, f6, s5⟩ := hF
          have g0 := f0 (by simp [haf])
          have e55 := rd HA.out 55 (by kernel_rfl) g0
          have g1 := f1 (by simp [haf])
          have e56 := rd HA.out 56 (by kernel_rfl) g1
          refine ⟨?_⟩
          go_simp
          refine (quotient_any _ _ (aT x1 y1) (aH x1 y1) _ _ (hM.keepI fk) (hH.keepI fk) HH.out rfl).mono ?_
          rintro e w1 ⟨u1, u2, u3, u4, rfl, hr, hb⟩
          go_simp
          refine hK (upd U 57 (.agg #[.bool u1, .slice u2 u3 u4])) _ _ ?_ ?_
          · rw [HA.out]; kernel_rfl
          · exact ⟨(fb.step hb (Nat.le_refl _)), (fk.trans (KeepI.below hb)), (Nat.le_trans fs hb.size), (oM.stay hb), (oH.stay hb), (oN.stay hb), (rR.stay hb), (mv mo_is (KeepI.below hb) f0), (mv mo_is (KeepI.below hb) f1), (fun _ => hr), (mv mo_is (KeepI.below hb) f3), (mv mo_rat (KeepI.below hb) f4), (mv mo_is (KeepI.below hb) f6), s5⟩
        refine StepsU.run rfl ?_ ?_
        · intro L U wr hF hlk haf A K hA hK
          have HA : Hid (A = putAll _ _ U) := hA
          clear hA
          simp [Aft, Region.binds] at haf
          obtain ⟨fb, fk, fs, oM, oH, oN, rR, f0, f1, f2, f3, f4, f6, s5⟩ := hF
          have e13 : A.tmps[13]? = some (.pointer (some ⟨bN, 0, none⟩)) := by rw [HA.out]; kernel_rfl
          obtain ⟨c0, c1, -, -⟩ := oN.two
          refine ⟨?_⟩
          go_simp
          refine hK (upd U 58 (.agg #[.bool xN, .slice aN nN cN])) _ _ ?_ ?_
          · rw [HA.out]; kernel_rfl
          · exact ⟨fb, fk, fs, oM, oH, oN, rR, f0, f1, f2, (fun _ => rfl), f4, f6, s5⟩
        refine StepsU.run rfl ?_ ?_
        · intro L U wr hF hlk haf A K hA hK
          have HA : Hid (A = putAll _ _ U) := hA
          clear hA
          simp [Aft, Region.binds] at haf
          obtain ⟨fb, fk, fs, oM, oH, oN, rR, f0, f1, f2, f3, f4, f6, s5⟩ := hF
          have g2 := f2 (by simp [haf])
          have e57 := rd HA.out 57 (by kernel_rfl) rfl
          have g3 := f3 (by simp [haf])
          have e58 := rd HA.out 58 (by kernel_rfl) g3
          refine ⟨?_⟩
          go_simp
          refine (lowest_any _ _ _ _ (x1 + y1) _ g2 (hN.keepI fk) (add_parts x1 y1).1 (add_parts x1 y1).2).mono ?_
          rintro e w1 ⟨j1, j2, j3, j4, j5, j6, j7, j8, rfl, hr, hb⟩
          go_simp
          have hs5 : L 5 = false := by cases h : L 5 with | false => rfl | true => rw [s5 h] at hlk; cases hlk
          refine hK (upd U 59 (.agg #[.bool j1, .slice j2 j3 j4, .bool j5, .slice j6 j7 j8])) _ _ ?_ ?_
          · rw [HA.out]; kernel_rfl
          · exact ⟨(fb.step hb (Nat.le_refl _)), (fk.trans (KeepI.below hb)), (Nat.le_trans fs hb.size), (oM.stay hb), (oH.stay hb), (oN.stay hb), (flip_v (P := fun v => BlkV _ _ _ v) hs5 (rR.stay hb)), (mv mo_is (KeepI.below hb) f0), (mv mo_is (KeepI.below hb) f1), (mv mo_int (KeepI.below hb) f2), (mv mo_is (KeepI.below hb) f3), (fun _ => hr.val), (mv mo_is (KeepI.below hb) f6), (fun _ => rfl)⟩
        refine StepsU.run rfl ?_ ?_
        · intro L U wr hF hlk haf A K hA hK
          have HA : Hid (A = putAll _ _ U) := hA
          clear hA
          simp [Aft, Region.binds] at haf
          obtain ⟨fb, fk, fs, oM, oH, oN, rR, f0, f1, f2, f3, f4, f6, s5⟩ := hF
          have g4 := f4 (by simp [haf])
          obtain ⟨px, pa, pn, pc, qx, qa, qn, qc, hsrc, -⟩ := g4
          have e59 := rd HA.out 59 (by kernel_rfl) hsrc
          have e4 : A.tmps[4]? = some (.pointer (some ⟨w.heap.size + 1 + 1, 0, none⟩)) := by rw [HA.out]; kernel_rfl
          simp only [hlk, cond_false] at rR
          obtain ⟨cs, hcs, hblk⟩ := rR
          injection hcs with hcs
          subst hcs
          obtain ⟨c0, c1, c2, c3⟩ := hblk.four
          obtain ⟨q0, q1, q2, q3⟩ := hblk.frozen4
          refine ⟨?_⟩
          go_simp
          have hk := keepI_four (noI_slice _ _ _) (noI_slice _ _ _) hblk px pa pn pc qx qa qn qc
          refine hK U _ _ ?_ ?_
          · exact HA.out
          · exact ⟨(below_store4 fb geR _ _ _ _), (fk.trans hk), (by simpa using fs), (oM.other4 neRM _ _ _ _), (oH.other4 neRH _ _ _ _), (oN.other4 neRN _ _ _ _), (stored_old hsrc (hblk.over4 _ _ _ _)), (mv mo_is hk f0), (mv mo_is hk f1), (mv mo_int hk f2), (mv mo_is hk f3), (mv mo_rat hk f4), (mv mo_is hk f6), (fun _ => by simp [haf])⟩
        refine StepsU.run rfl ?_ StepsU.nil
        · intro L U wr hF hlk haf A K hA hK
          have HA : Hid (A = putAll _ _ U) := hA
          clear hA
          simp [Aft, Region.binds] at haf
          obtain ⟨fb, fk, fs, oM, oH, oN, rR, f0, f1, f2, f3, f4, f6, s5⟩ := hF
          refine ⟨?_⟩
          go_simp
          refine hK (upd U 5 (.int .i64 0)) _ _ ?_ ?_
          · rw [HA.out]; kernel_rfl
          · exact ⟨fb, fk, fs, oM, oH, oN, rR, f0, f1, f2, f3, f4, (fun _ => rfl), s5⟩
      intro L U7 V7 hall hF
      have hbw0 := hbw
      clear hbw
      obtain ⟨hbw, fk, fs, oM, oH, oN, rR, f0, f1, f2, f3, f4, f6, s5⟩ := hF
      clear s5
      have g0 := f0 (hall 0 (by decide))
      have g1 := f1 (hall 1 (by decide))
      have g2 := f2 (hall 2 (by decide))
      have g3 := f3 (hall 3 (by decide))
      have g4 := f4 (hall 4 (by decide))
      have g6 := f6 (hall 6 (by decide))
      rw [hall 5 (by decide), cond_true] at rR
      clear hall f0 f1 f2 f3 f4 f6
      replace hX := hX.keepI fk
      replace hY := hY.keepI fk
      replace hI := hI.keepI fk
      replace hJ := hJ.keepI fk
      replace hG := hG.keepI fk
      replace hL := hL.keepI fk
      replace hM := hM.keepI fk
      replace hH := hH.keepI fk
      replace hN := hN.keepI fk
      replace ltM := Nat.lt_of_lt_of_le ltM fs
      replace ltH := Nat.lt_of_lt_of_le ltH fs
      replace ltN := Nat.lt_of_lt_of_le ltN fs
      replace ltR := Nat.lt_of_lt_of_le ltR fs
      clear g0
      clear g1
      clear g2
      clear g3
      clear hbw0
      simp only [setM_some, setM_none, setM_nil]
      clear ltJ oJ
      clear ltG oG
      clear ltL oL
      clear fk fs
      obtain ⟨cs, hcs, oR⟩ := rR
      obtain ⟨px, pa, pn, pc, qx, qa, qn, qc, hv, hq⟩ := g4
      rw [hv] at hcs
      injection hcs with hcs
      subst hcs
      obtain ⟨r0, r1, r2, r3⟩ := oR.four
      have g6' : U7 5 = _ := g6
      repeat (first | go_values | go_skip | go_guarded | go_step | go_upon)
      refine bodyPost_ret (v := (.tuple #[.agg #[.bool px, .slice pa pn pc, .bool qx, .slice qa qn qc], .int .i64 0])) (by simp [results, Try.results10, go_sem, r0, r1, r2, r3, g6']) rfl ?_
      exact ⟨_, _, _, _, _, _, _, _, by rw [addC_yes HA.out], by rw [addZ_yes HA.out]; exact hq, hbw⟩
    · have EK := ec_not gK
      have HN : Hid (¬ aFits lim x1 y1) := fun h => gK h.2.2.2
      clear gK
      obtain ⟨Rc0, Rc1, Rc2, Rc3⟩ := oR.four
      obtain ⟨Rq0, Rq1, Rq2, Rq3⟩ := oR.frozen4
      repeat (first | go_values | go_skip | go_guarded | go_step | go_upon)
      refine bodyPost_ret (v := (.tuple #[.agg #[.bool false, .slice none 0 0, .bool false, .slice none 0 0], .int .i64 11])) (by simp [results, Try.results10, go_sem, Rc0, Rc1, Rc2, Rc3, EK]) rfl ?_
      refine ⟨_, _, _, _, _, _, _, _, by rw [addC_no HN.out], ?_, ?_⟩
      · rw [addZ_no HN.out]; exact QP.zero
      · first | exact hbw | exact below_store4 hbw (by omega) _ _ _ _
  · have EC := crC_no gF
    have HN : Hid (¬ aFits lim x1 y1) := fun h => gF ⟨h.1, h.2.1, h.2.2.1⟩
    clear gF
    obtain ⟨Rc0, Rc1, Rc2, Rc3⟩ := oR.four
    obtain ⟨Rq0, Rq1, Rq2, Rq3⟩ := oR.frozen4
    repeat (first | go_values | go_skip | go_guarded | go_step | go_upon)
    refine bodyPost_ret (v := (.tuple #[.agg #[.bool false, .slice none 0 0, .bool false, .slice none 0 0], .int .i64 11])) (by simp [results, Try.results10, go_sem, Rc0, Rc1, Rc2, Rc3, EC]) rfl ?_
    refine ⟨_, _, _, _, _, _, _, _, by rw [addC_no HN.out], ?_, ?_⟩
    · rw [addZ_no HN.out]; exact QP.zero
    · first | exact hbw | exact below_store4 hbw (by omega) _ _ _ _

end Go.Proofs.Ytidpbdhhbeaijab
/- Contracts of ratio's asked, Fold and Sum, with Add for the step; they prove no statement of the seat. -/
namespace Go.Proofs.Ytidpbdhhbeaijab
open Go.RowKit

/-- Cells that hold limbs hold them still. -/
def KeepU (w w' : World) : Prop := ∀ p x, w.cell? p = some (.int .u32 x) → w'.cell? p = some (.int .u32 x)
theorem Seg.keepU {w w' : World} {ao : Option Addr} {xs : List Nat} (h : Seg .u32 w ao xs) (hk : KeepU w w') : Seg .u32 w' ao xs := by
  rcases h with h | ⟨b, off, rfl, hc⟩
  · exact Or.inl h
  · exact Or.inr ⟨b, off, rfl, fun i hi => hk _ _ (hc i hi)⟩
theorem AInt.keepU {w w' : World} {v : Value} {z : Int} (h : AInt w v z) (hk : KeepU w w') : AInt w' v z := by
  obtain ⟨neg, xs, ⟨ao, cap, h1, h2, h3, h4, h5⟩, h6⟩ := h
  exact ⟨neg, xs, ⟨ao, cap, h1, h2, h3, h4.keepU hk, h5⟩, h6⟩
theorem QP.keepU {w w' : World} {x : Bool} {a : Option Addr} {n c : Nat} {y : Bool} {e : Option Addr} {m f : Nat} {q : Rat} (h : QP w x a n c y e m f q) (hk : KeepU w w') : QP w' x a n c y e m f q := ⟨h.1.keepU hk, h.2.keepU hk⟩
theorem KeepI.u {w w' : World} (h : KeepI w w') : KeepU w w' := fun p x hp => h p _ x hp
theorem KeepU.trans {a b c : World} (h : KeepU a b) (k : KeepU b c) : KeepU a c := fun p x hp => k p x (h p x hp)
theorem keepU_set {t : TypeId} {w : World} {b : Nat} {c : Int} (h : Blk t w b #[.int .i64 c]) (v : Value) : KeepU w (w.setCell ⟨b, 0, none⟩ v) := by
  intro p x hp
  by_cases hb : p.block = b
  · exfalso
    obtain ⟨pb, po, pm⟩ := p
    simp only at hb
    subst hb
    have h1 : pm = none ∧ (#[.int .i64 c] : Array Value)[po]? = some (Value.int .u32 x) := by simpa [World.cell?, show w.heap[pb]? = _ from h] using hp
    have h2 := h1.2
    match po, h2 with
    | 0, h2 => simp at h2
    | n + 1, h2 => simp at h2
  · rw [World.cell?_of_block (w := w) (heap_setCell_other w ⟨b, 0, none⟩ p.block v hb)]
    exact hp

theorem catch_idle (v1 v2 : Value) (w : World) :
    CallsD Try.prog 65 #[v1, v2] .returning w fun e u' w' => e = .returned (.tuple #[]) ∧ u' = .returning ∧ w' = w := by
  refine callsD_of_wpS Try.func65 rfl fun c₀ cs hu => ?_
  apply wpS_seq
  apply wpS_region
  simp [wpOpsS, go_sem, recoverD, hu, Try.ntmps65, Exit.thenS]
  refine wpS_cond (t := false) (by simp [Act.eval, Array.replicate]) ?_
  simp only [Bool.false_eq_true, if_false]
  refine wpS_of_wp (wp_skip ?_)
  cases c₀
  simp_all [bodyPostS, results, Try.results65]

set_option maxRecDepth 20000 in
set_option maxHeartbeats 8000000 in
theorem asked_add (vX vY : Value) (x1 y1 : Rat) (w : World) (hX : QV w vX x1) (hY : QV w vY y1) :
    Calls Try.prog 42 #[.func (.func 10) #[] #[], vX, vY] w fun e w' => ∃ s1 s2 s3 s4 s5 s6 s7 s8, e = .returned (.tuple #[.agg #[.bool s1, .slice s2 s3 s4, .bool s5, .slice s6 s7 s8], .int .i64 (addC x1 y1)]) ∧ QP w' s1 s2 s3 s4 s5 s6 s7 s8 (addZ x1 y1) ∧ Below w.heap.size w w' := by
  obtain ⟨xX, aX, nX, cX, yX, eX, mX, fX, rfl, hX⟩ := hX
  obtain ⟨xY, aY, nY, cY, yY, eY, mY, fY, rfl, hY⟩ := hY
  have hmf : ∀ (fn : Fn) (first cap : Array Value) (w : World), (Instr.makeFunc fn first cap).run Try.prog w = .ok (.func fn first cap) w := fun _ _ _ _ => rfl
  have oX := ((((Blk.new w 27 #[.bool xX, .slice aX nX cX, .bool yX, .slice eX mX fX]).alloc (.cells #[.bool xY, .slice aY nY cY, .bool yY, .slice eY mY fY] 27 (0, 0))).alloc (.cells #[.bool false, .slice none 0 0, .bool false, .slice none 0 0] 27 (0, 0))).alloc (.cells #[.int .i64 0] 35 (0, 0)))
  have oY := (((Blk.new (w.alloc (.cells #[.bool xX, .slice aX nX cX, .bool yX, .slice eX mX fX] 27 (0, 0))) 27 #[.bool xY, .slice aY nY cY, .bool yY, .slice eY mY fY]).alloc (.cells #[.bool false, .slice none 0 0, .bool false, .slice none 0 0] 27 (0, 0))).alloc (.cells #[.int .i64 0] 35 (0, 0)))
  have oR := ((Blk.new ((w.alloc (.cells #[.bool xX, .slice aX nX cX, .bool yX, .slice eX mX fX] 27 (0, 0))).alloc (.cells #[.bool xY, .slice aY nY cY, .bool yY, .slice eY mY fY] 27 (0, 0))) 27 #[.bool false, .slice none 0 0, .bool false, .slice none 0 0]).alloc (.cells #[.int .i64 0] 35 (0, 0)))
  have oE := (Blk.new (((w.alloc (.cells #[.bool xX, .slice aX nX cX, .bool yX, .slice eX mX fX] 27 (0, 0))).alloc (.cells #[.bool xY, .slice aY nY cY, .bool yY, .slice eY mY fY] 27 (0, 0))).alloc (.cells #[.bool false, .slice none 0 0, .bool false, .slice none 0 0] 27 (0, 0))) 35 #[.int .i64 0])
  simp only [World.size_alloc] at oY oR oE
  have hbw : Below w.heap.size w ((((w.alloc (.cells #[.bool xX, .slice aX nX cX, .bool yX, .slice eX mX fX] 27 (0, 0))).alloc (.cells #[.bool xY, .slice aY nY cY, .bool yY, .slice eY mY fY] 27 (0, 0))).alloc (.cells #[.bool false, .slice none 0 0, .bool false, .slice none 0 0] 27 (0, 0))).alloc (.cells #[.int .i64 0] 35 (0, 0))) := by go_grown
  replace hX := hX.below hbw
  replace hY := hY.below hbw
  have ltX := oX.lt
  have ltY := oY.lt
  have ltR := oR.lt
  have ltE := oE.lt
  go_enter_defers Try.func42, Try.ntmps42
  obtain ⟨Xc0, Xc1, Xc2, Xc3⟩ := oX.four
  obtain ⟨Xq0, Xq1, Xq2, Xq3⟩ := oX.frozen4
  obtain ⟨Yc0, Yc1, Yc2, Yc3⟩ := oY.four
  obtain ⟨Yq0, Yq1, Yq2, Yq3⟩ := oY.frozen4
  go_wp2_with fail
  refine (qadd_any _ _ x1 y1 _ hX.val hY.val).mono ?_
  rintro e w1 ⟨j1, j2, j3, j4, j5, j6, j7, j8, rfl, hQ, hb⟩
  clear Xc0 Xc1 Xc2 Xc3 Xq0 Xq1 Xq2 Xq3
  clear Yc0 Yc1 Yc2 Yc3 Yq0 Yq1 Yq2 Yq3
  replace oX := oX.stay hb
  replace ltX := oX.lt
  replace oY := oY.stay hb
  replace ltY := oY.lt
  replace oR := oR.stay hb
  replace ltR := oR.lt
  replace hX := hX.below hb
  replace hY := hY.below hb
  replace hbw := hbw.step hb (Nat.le_refl _)
  replace oE := oE.stay hb
  clear hb
  obtain ⟨r0, r1, r2, r3⟩ := oR.four
  obtain ⟨f0, f1, f2, f3⟩ := oR.frozen4
  obtain ⟨e0, g0⟩ := oE.one
  go_wp2
  refine leaves_cons (f := 65) (args := #[.pointer (some ⟨w.heap.size + 1 + 1, 0, none⟩), .pointer (some ⟨w.heap.size + 1 + 1 + 1, 0, none⟩)]) (by simp) (by simp [go_sem]) ?_
  refine (catch_idle _ _ _).mono ?_
  rintro e u' w'' ⟨rfl, rfl, rfl⟩
  have kR := keepI_four (noI_slice _ _ _) (noI_slice _ _ _) oR j1 j2 j3 j4 j5 j6 j7 j8
  have oE1 := oE.other4 (show w.heap.size + 1 + 1 ≠ w.heap.size + 1 + 1 + 1 by omega) (.bool j1) (.slice j2 j3 j4) (.bool j5) (.slice j6 j7 j8)
  have hQ1 := (hQ.keepI kR).keepU (keepU_set oE1 (.int .i64 (addC x1 y1)))
  have hbw1 := (below_store4 hbw (show w.heap.size ≤ w.heap.size + 1 + 1 by omega) (.bool j1) (.slice j2 j3 j4) (.bool j5) (.slice j6 j7 j8)).setCell (p := ⟨w.heap.size + 1 + 1 + 1, 0, none⟩) (by show w.heap.size ≤ w.heap.size + 1 + 1 + 1; omega) (.int .i64 (addC x1 y1))
  refine ⟨.tuple #[.agg #[.bool j1, .slice j2 j3 j4, .bool j5, .slice j6 j7 j8], .int .i64 (addC x1 y1)], ?_, ?_⟩
  · simp [results, Try.results42, go_sem, r0, r1, r2, r3, e0]
  · exact ⟨_, _, _, _, _, _, _, _, rfl, hQ1, hbw1⟩

/-- A list's sum, from z on: none where a sum on the way is refused. -/
def qsums : Rat → List Rat → Option Rat
  | z, [] => some z
  | z, x :: r => if addC z x = 0 then qsums (addZ z x) r else none
def qsumZ (zs : List Rat) : Rat := (qsums 0 zs).getD 0
def qsumE (zs : List Rat) : Int := if (qsums 0 zs).isSome then 0 else 11
theorem qsums_step {zs : List Rat} {k : Nat} (hk : k < zs.length) (p : Rat) : qsums p (zs.drop k) = if addC p (zs.getD k 0) = 0 then qsums (addZ p (zs.getD k 0)) (zs.drop (k + 1)) else none := by
  rw [List.drop_eq_getElem_cons hk, qsums, List.getD_eq_getElem?_getD, List.getElem?_eq_getElem hk]
  rfl
/-- The cells from 'ao' on are rationals' structs. -/
def ArrQ (w : World) (ao : Option Addr) (zs : List Rat) : Prop :=
  zs = [] ∨ ∃ g o, ao = some ⟨g, o, none⟩ ∧ ∀ i, i < zs.length → ∃ x a n c y e m f, w.cell? ⟨g, o + i * 4, none⟩ = some (.bool x) ∧ w.cell? ⟨g, o + i * 4 + 1, none⟩ = some (.slice a n c) ∧ w.cell? ⟨g, o + i * 4 + 2, none⟩ = some (.bool y) ∧ w.cell? ⟨g, o + i * 4 + 3, none⟩ = some (.slice e m f) ∧ QP w x a n c y e m f (zs.getD i 0)
theorem ArrQ.below {w w' : World} {ao : Option Addr} {zs : List Rat} (h : ArrQ w ao zs) (hb : Below w.heap.size w w') : ArrQ w' ao zs := by
  rcases h with h | ⟨g, o, rfl, hc⟩
  · exact Or.inl h
  · refine Or.inr ⟨g, o, rfl, fun i hi => ?_⟩
    obtain ⟨x, a, n, c, y, e, m, f, h0, h1, h2, h3, h4⟩ := hc i hi
    exact ⟨x, a, n, c, y, e, m, f, (hb.cell (p := ⟨g, o + i * 4, none⟩) (World.block_lt_of_cell? w _ h0)).trans h0, (hb.cell (p := ⟨g, o + i * 4 + 1, none⟩) (World.block_lt_of_cell? w _ h1)).trans h1, (hb.cell (p := ⟨g, o + i * 4 + 2, none⟩) (World.block_lt_of_cell? w _ h2)).trans h2, (hb.cell (p := ⟨g, o + i * 4 + 3, none⟩) (World.block_lt_of_cell? w _ h3)).trans h3, h4.below hb⟩
theorem ArrQ.at {w : World} {ao : Option Addr} {zs : List Rat} (h : ArrQ w ao zs) (i : Nat) (hi : i < zs.length) : ∃ g o, ao = some ⟨g, o, none⟩ := by
  rcases h with h | ⟨g, o, rfl, hc⟩
  · subst h; simp at hi
  · exact ⟨g, o, rfl⟩
theorem addC_or (x y : Rat) : addC x y = 0 ∨ addC x y = 11 := by unfold addC; split <;> simp

set_option maxRecDepth 20000 in
set_option maxHeartbeats 8000000 in
theorem fold_add (ao : Option Addr) (n cap : Nat) (zs : List Rat) (w : World) (hn : zs.length = n) (h2 : n ≤ 1000) (hs : ArrQ w ao zs) :
    Calls Try.prog 17 #[.agg #[.bool false, .slice none 0 0, .bool false, .slice none 0 0], .slice ao n cap, .func (.func 10) #[] #[]] w fun e w' => ∃ s1 s2 s3 s4 s5 s6 s7 s8, e = .returned (.tuple #[.agg #[.bool s1, .slice s2 s3 s4, .bool s5, .slice s6 s7 s8], .int .i64 (qsumE zs)]) ∧ QP w' s1 s2 s3 s4 s5 s6 s7 s8 (qsumZ zs) ∧ Below w.heap.size w w' := by
  have HN : Hid (zs.length = n) := hn
  clear hn
  have oR := ((Blk.new (w.alloc (.cells #[.bool false, .slice none 0 0, .bool false, .slice none 0 0] 27 (0, 0))) 27 #[.bool false, .slice none 0 0, .bool false, .slice none 0 0]).alloc (.cells #[.bool false, .slice none 0 0, .bool false, .slice none 0 0] 27 (0, 0)))
  have oV := Blk.new ((w.alloc (.cells #[.bool false, .slice none 0 0, .bool false, .slice none 0 0] 27 (0, 0))).alloc (.cells #[.bool false, .slice none 0 0, .bool false, .slice none 0 0] 27 (0, 0))) 27 #[.bool false, .slice none 0 0, .bool false, .slice none 0 0]
  simp only [World.size_alloc] at oR oV
  have hbw : Below w.heap.size w (((w.alloc (.cells #[.bool false, .slice none 0 0, .bool false, .slice none 0 0] 27 (0, 0))).alloc (.cells #[.bool false, .slice none 0 0, .bool false, .slice none 0 0] 27 (0, 0))).alloc (.cells #[.bool false, .slice none 0 0, .bool false, .slice none 0 0] 27 (0, 0))) := by go_grown
  go_enter Try.func17, Try.ntmps17
  go_wp2
  go_loopw [16] (fun i wr => ∃ k : Nat, ∃ (p : Rat) (xV : Bool) (aV : Option Addr) (nV cV : Nat) (yV : Bool) (eV : Option Addr) (mV fV : Nat), k ≤ n ∧ i = .int .i64 k ∧ Hid (qsums 0 zs = qsums p (zs.drop k)) ∧ Blk 27 wr (w.heap.size + 1) #[.bool false, .slice none 0 0, .bool false, .slice none 0 0] ∧ Blk 27 wr (w.heap.size + 1 + 1) #[.bool xV, .slice aV nV cV, .bool yV, .slice eV mV fV] ∧ QP wr xV aV nV cV yV eV mV fV p ∧ Below w.heap.size w wr) (fun i _ => n - (intOf i).toNat)
  case atStart => exact ⟨0, 0, false, none, 0, 0, false, none, 0, 0, Nat.zero_le _, rfl, rfl, oR, oV, QP.zero, hbw⟩
  case round =>
    clear oR oV hbw
    obtain ⟨k, p, xV, aV, nV, cV, yV, eV, mV, fV, hk, rfl, HS, oR, oV, hV, hbw⟩ := hrel
    obtain ⟨v0, v1, v2, v3⟩ := oV.four
    have ltV := oV.lt
    have ltR := oR.lt
    by_cases h0 : k < n
    · have hkz : k < zs.length := by rw [HN.out]; exact h0
      have hs' := hs.below hbw
      obtain ⟨g, o, rfl⟩ := hs'.at k hkz
      rcases hs' with hnil | ⟨g', o', he, hc⟩
      · subst hnil; simp at hkz
      cases he
      obtain ⟨xX, aX, nX, cX, yX, eX, mX, fX, c0, c1, c2, c3, hX⟩ := hc k hkz
      obtain ⟨x, hxd⟩ : ∃ x, x = zs.getD k 0 := ⟨_, rfl⟩
      rw [← hxd] at hX
      have HX : Hid (x = zs.getD k 0) := hxd
      have HST : Hid (qsums p (zs.drop k) = if addC p (zs.getD k 0) = 0 then qsums (addZ p (zs.getD k 0)) (zs.drop (k + 1)) else none) := qsums_step hkz p
      clear hc hxd hkz
      have hn1 := below_new wr (.cells #[.bool xX, .slice aX nX cX, .bool yX, .slice eX mX fX] 27 (0, 0))
      go_wp2_with fail
      refine (asked_add _ _ p x _ (hV.below hn1).val (hX.below hn1).val).mono ?_
      rintro e w2 ⟨j1, j2, j3, j4, j5, j6, j7, j8, rfl, hJ, hb2⟩
      have hb2' := hn1.step hb2 (Nat.le_refl _)
      replace oR := oR.stay hb2'
      replace oV := oV.stay hb2'
      replace hbw := hbw.step hb2' (Nat.le_refl _)
      have ltV2 := oV.lt
      have ltR2 := oR.lt
      clear v0 v1 v2 v3 c0 c1 c2 c3 hb2 hb2' hn1 ltV ltR
      obtain ⟨v0, v1, v2, v3⟩ := oV.four
      obtain ⟨vq0, vq1, vq2, vq3⟩ := oV.frozen4
      obtain ⟨r0, r1, r2, r3⟩ := oR.four
      obtain ⟨rq0, rq1, rq2, rq3⟩ := oR.frozen4
      rcases addC_or p x with hc0 | hc0
      · have HC : Hid (addC p x = 0) := hc0
        have kV := keepI_four (noI_slice _ _ _) (noI_slice _ _ _) oV j1 j2 j3 j4 j5 j6 j7 j8
        have oV3 := (oV.over4 (.bool j1) (.slice j2 j3 j4) (.bool j5) (.slice j6 j7 j8)).stay (below_new _ (.cells #[.bool j1, .slice j2 j3 j4, .bool j5, .slice j6 j7 j8] 27 (0, 0)))
        have oR3 := (oR.other4 (show w.heap.size + 1 + 1 ≠ w.heap.size + 1 by omega) (.bool j1) (.slice j2 j3 j4) (.bool j5) (.slice j6 j7 j8)).stay (below_new _ (.cells #[.bool j1, .slice j2 j3 j4, .bool j5, .slice j6 j7 j8] 27 (0, 0)))
        have hJ3 := (hJ.keepI kV).below (below_new _ (.cells #[.bool j1, .slice j2 j3 j4, .bool j5, .slice j6 j7 j8] 27 (0, 0)))
        have hB3 := (below_store4 hbw (show w.heap.size ≤ w.heap.size + 1 + 1 by omega) (.bool j1) (.slice j2 j3 j4) (.bool j5) (.slice j6 j7 j8)).step (below_new _ (.cells #[.bool j1, .slice j2 j3 j4, .bool j5, .slice j6 j7 j8] 27 (0, 0))) (Nat.le_refl _)
        go_wp2
        go_roundw
        case rel =>
          refine ⟨k + 1, addZ p x, j1, j2, j3, j4, j5, j6, j7, j8, by omega, by go_num, ?_, oR3, oV3, hJ3, hB3⟩
          show _ = _
          rw [HS.out, HST.out, ← HX.out, if_pos HC.out]
        case measure => simp [intOf]; omega
      · have HC : Hid (addC p x = 11) := hc0
        go_wp2
        refine bodyPost_ret (v := .tuple #[.agg #[.bool false, .slice none 0 0, .bool false, .slice none 0 0], .int .i64 11]) (by simp [results, Try.results17, go_sem, r0, r1, r2, r3, ltR2]) rfl ?_
        have h5 : qsums 0 zs = none := by rw [HS.out, HST.out, ← HX.out, if_neg (by rw [HC.out]; decide)]
        refine ⟨false, none, 0, 0, false, none, 0, 0, ?_, ?_, ?_⟩
        · unfold qsumE; rw [h5]; rfl
        · unfold qsumZ; rw [h5]; exact QP.zero
        · exact (below_store4 hbw (show w.heap.size ≤ w.heap.size + 1 by omega) _ _ _ _).step (below_new _ _) (Nat.le_refl _)
    · obtain ⟨r0, r1, r2, r3⟩ := oR.four
      obtain ⟨rq0, rq1, rq2, rq3⟩ := oR.frozen4
      have HD : Hid (zs.drop k = []) := List.drop_eq_nil_of_le (by rw [HN.out]; omega)
      go_wp2
      refine bodyPost_ret (v := .tuple #[.agg #[.bool xV, .slice aV nV cV, .bool yV, .slice eV mV fV], .int .i64 0]) (by simp [results, Try.results17, go_sem, r0, r1, r2, r3]) rfl ?_
      have h5 : qsums 0 zs = some p := by rw [HS.out, HD.out]; rfl
      refine ⟨xV, aV, nV, cV, yV, eV, mV, fV, ?_, ?_, below_store4 hbw (show w.heap.size ≤ w.heap.size + 1 by omega) _ _ _ _⟩
      · unfold qsumE; rw [h5]; rfl
      · unfold qsumZ; rw [h5]; exact hV.keepI (keepI_four (noI_slice _ _ _) (noI_slice _ _ _) oR _ _ _ _ _ _ _ _)
end Go.Proofs.Ytidpbdhhbeaijab
/- The step that RatioFolds hands on, and ratio's asked and Fold with it; they prove no statement of the seat. -/
namespace Go.Proofs.Ytidpbdhhbeaijab
open Go.RowKit

/-- Of what was there block b alone has been written. -/
structure ButS (b : Nat) (w w' : World) : Prop where
  os : w'.os = w.os
  tape : w'.tape = w.tape
  output : w'.output = w.output
  size : w.heap.size ≤ w'.heap.size
  block : ∀ k, k < w.heap.size → k ≠ b → w'.heap[k]? = w.heap[k]?
theorem ButS.of {b : Nat} {w w' : World} (h : Below w.heap.size w w') : ButS b w w' := ⟨h.os, h.tape, h.output, h.size, fun k hk _ => h.block k hk⟩
theorem ButS.trans {b : Nat} {u v w : World} (h : ButS b u v) (k : ButS b v w) : ButS b u w :=
  ⟨k.os.trans h.os, k.tape.trans h.tape, k.output.trans h.output, Nat.le_trans h.size k.size, fun i hi hb => (k.block i (Nat.lt_of_lt_of_le hi h.size) hb).trans (h.block i hi hb)⟩
theorem ButS.set {b : Nat} {w w' : World} (h : ButS b w w') (p : Addr) (v : Value) (hp : p.block = b ∨ w.heap.size ≤ p.block) : ButS b w (w'.setCell p v) :=
  ⟨h.os, h.tape, h.output, by simpa using h.size, fun k hk hb => (heap_setCell_other w' p k v (by rcases hp with hp | hp <;> omega)).trans (h.block k hk hb)⟩
theorem ButS.set4 {b d : Nat} {w w' : World} (h : ButS b w w') (hd : w.heap.size ≤ d) (p q r s : Value) : ButS b w ((((w'.setCell ⟨d, 0, none⟩ p).setCell ⟨d, 1, none⟩ q).setCell ⟨d, 2, none⟩ r).setCell ⟨d, 3, none⟩ s) :=
  (((h.set _ _ (Or.inr hd)).set _ _ (Or.inr hd)).set _ _ (Or.inr hd)).set _ _ (Or.inr hd)
theorem ButS.blk {b d : Nat} {t : TypeId} {w w' : World} {cs : Array Value} (h : ButS b w w') (hB : Blk t w d cs) (hd : d ≠ b) : Blk t w' d cs := (h.block d hB.lt hd).trans hB
theorem not_int {t : TypeId} {w : World} {b : Nat} {c : Int} (h : Blk t w b #[.int .i64 c]) {p : Addr} {v : Value} (hp : w.cell? p = some v) (hv : v ≠ .int .i64 c) : p.block ≠ b := by
  intro hb
  obtain ⟨pb, po, pm⟩ := p
  simp only at hb
  subst hb
  have h1 : pm = none ∧ (#[.int .i64 c] : Array Value)[po]? = some v := by simpa [World.cell?, show w.heap[pb]? = _ from h] using hp
  have h2 := h1.2
  match po, h2 with
  | 0, h2 => simp at h2; exact hv h2.symm
  | n + 1, h2 => simp at h2
theorem ButS.cell {t : TypeId} {b : Nat} {c : Int} {w w' : World} (h : ButS b w w') (hB : Blk t w b #[.int .i64 c]) {p : Addr} {v : Value} (hp : w.cell? p = some v) (hv : v ≠ .int .i64 c) : w'.cell? p = some v :=
  (World.cell?_of_block (w := w) (h.block p.block (World.block_lt_of_cell? w _ hp) (not_int hB hp hv))).trans hp
theorem ButS.keepU {t : TypeId} {b : Nat} {c : Int} {w w' : World} (h : ButS b w w') (hB : Blk t w b #[.int .i64 c]) : KeepU w w' := fun _ _ hp => h.cell hB hp (by simp)
theorem ArrQ.butS {t : TypeId} {b : Nat} {c : Int} {w w' : World} {ao : Option Addr} {zs : List Rat} (h : ArrQ w ao zs) (hb : ButS b w w') (hB : Blk t w b #[.int .i64 c]) : ArrQ w' ao zs := by
  rcases h with h | ⟨g, o, rfl, hc⟩
  · exact Or.inl h
  · refine Or.inr ⟨g, o, rfl, fun i hi => ?_⟩
    obtain ⟨x, a, n, c, y, e, m, f, h0, h1, h2, h3, h4⟩ := hc i hi
    exact ⟨x, a, n, c, y, e, m, f, hb.cell hB h0 (by simp), hb.cell hB h1 (by simp), hb.cell hB h2 (by simp), hb.cell hB h3 (by simp), h4.keepU (hb.keepU hB)⟩

def stC (k t : Int) : Int := if k = t then 2 else 0
def stZ (k t : Int) (y : Rat) : Rat := if k = t then 0 else y
def stN (k t : Int) : Int := if k = t then k else k + 1

set_option maxRecDepth 20000 in
set_option maxHeartbeats 4000000 in
theorem step_any (xX : Bool) (aX : Option Addr) (nX cX : Nat) (yX : Bool) (eX : Option Addr) (mX fX : Nat) (vY : Value) (k t : Int) (bs bt : Nat) (y1 : Rat) (w : World) (h0 : 0 ≤ k) (hk : k ≤ 1000) (hY : QV w vY y1) (oS : Blk 3 w bs #[.int .i64 k]) (oT : Blk 3 w bt #[.int .i64 t]) :
    Calls Try.prog 18 #[.agg #[.bool xX, .slice aX nX cX, .bool yX, .slice eX mX fX], vY, .pointer (some ⟨bs, 0, none⟩), .pointer (some ⟨bt, 0, none⟩)] w fun e w' => ∃ s1 s2 s3 s4 s5 s6 s7 s8, e = .returned (.tuple #[.agg #[.bool s1, .slice s2 s3 s4, .bool s5, .slice s6 s7 s8], .int .i64 (stC k t)]) ∧ QP w' s1 s2 s3 s4 s5 s6 s7 s8 (stZ k t y1) ∧ ButS bs w w' ∧ Blk 3 w' bs #[.int .i64 (stN k t)] := by
  obtain ⟨xY, aY, nY, cY, yY, eY, mY, fY, rfl, hY⟩ := hY
  have lS := oS.lt
  have lT := oT.lt
  have oY := (Blk.new (w.alloc (.cells #[.bool xX, .slice aX nX cX, .bool yX, .slice eX mX fX] 27 (0, 0))) 27 #[.bool xY, .slice aY nY cY, .bool yY, .slice eY mY fY]).alloc (.cells #[.bool false, .slice none 0 0, .bool false, .slice none 0 0] 27 (0, 0))
  have oR := Blk.new ((w.alloc (.cells #[.bool xX, .slice aX nX cX, .bool yX, .slice eX mX fX] 27 (0, 0))).alloc (.cells #[.bool xY, .slice aY nY cY, .bool yY, .slice eY mY fY] 27 (0, 0))) 27 #[.bool false, .slice none 0 0, .bool false, .slice none 0 0]
  simp only [World.size_alloc] at oY oR
  have hbw : Below w.heap.size w (((w.alloc (.cells #[.bool xX, .slice aX nX cX, .bool yX, .slice eX mX fX] 27 (0, 0))).alloc (.cells #[.bool xY, .slice aY nY cY, .bool yY, .slice eY mY fY] 27 (0, 0))).alloc (.cells #[.bool false, .slice none 0 0, .bool false, .slice none 0 0] 27 (0, 0))) := by go_grown
  replace oS := oS.stay hbw
  replace oT := oT.stay hbw
  replace hY := hY.below hbw
  obtain ⟨s0, sq⟩ := oS.one
  obtain ⟨t0, tq⟩ := oT.one
  obtain ⟨y0, y1', y2, y3⟩ := oY.four
  obtain ⟨r0, r1, r2, r3⟩ := oR.four
  obtain ⟨rq0, rq1, rq2, rq3⟩ := oR.frozen4
  have ltS := oS.lt
  have ltT := oT.lt
  have ltY := oY.lt
  have ltR := oR.lt
  by_cases hkt : k = t
  · subst hkt
    go_enter Try.func18, Try.ntmps18
    go_wp2
    refine bodyPost_ret (v := .tuple #[.agg #[.bool false, .slice none 0 0, .bool false, .slice none 0 0], .int .i64 2]) (by simp [results, Try.results18, go_sem, r0, r1, r2, r3]) rfl ?_
    have e1 : stC k k = 2 := if_pos rfl
    have e2 : stZ k k y1 = 0 := if_pos rfl
    have e3 : stN k k = k := if_pos rfl
    rw [e1, e2, e3]
    exact ⟨_, _, _, _, _, _, _, _, rfl, QP.zero, ButS.of hbw, oS⟩
  · have HK : Hid (k ≠ t) := hkt
    have hd : decide (k = t) = false := decide_eq_false hkt
    go_enter Try.func18, Try.ntmps18
    go_wp2
    refine bodyPost_ret (v := .tuple #[.agg #[.bool xY, .slice aY nY cY, .bool yY, .slice eY mY fY], .int .i64 0]) (by simp [results, Try.results18, go_sem, r0, r1, r2, r3]) rfl ?_
    have e1 : stC k t = 0 := if_neg HK.out
    have e2 : stZ k t y1 = y1 := if_neg HK.out
    have e3 : stN k t = k + 1 := if_neg HK.out
    rw [e1, e2, e3]
    have oR1 := oR.other (a := ⟨bs, 0, none⟩) (show bs ≠ w.heap.size + 1 + 1 by omega) (.int .i64 (k + 1))
    have oS1 : Blk 3 ((((w.alloc (.cells #[.bool xX, .slice aX nX cX, .bool yX, .slice eX mX fX] 27 (0, 0))).alloc (.cells #[.bool xY, .slice aY nY cY, .bool yY, .slice eY mY fY] 27 (0, 0))).alloc (.cells #[.bool false, .slice none 0 0, .bool false, .slice none 0 0] 27 (0, 0))).setCell ⟨bs, 0, none⟩ (.int .i64 (k + 1))) bs #[.int .i64 (k + 1)] := by simpa using oS.set 0 (.int .i64 (k + 1))
    refine ⟨_, _, _, _, _, _, _, _, rfl, (hY.keepU (keepU_set oS _)).keepI (keepI_four (noI_slice _ _ _) (noI_slice _ _ _) oR1 _ _ _ _ _ _ _ _), ?_, oS1.other4 (show w.heap.size + 1 + 1 ≠ bs by omega) _ _ _ _⟩
    exact ((ButS.of hbw).set ⟨bs, 0, none⟩ (.int .i64 (k + 1)) (Or.inl rfl)).set4 (show w.heap.size ≤ w.heap.size + 1 + 1 by omega) _ _ _ _

set_option maxRecDepth 20000 in
set_option maxHeartbeats 8000000 in
theorem asked_step (vX vY : Value) (x1 : Rat) (k t : Int) (bs bt : Nat) (y1 : Rat) (w : World) (h0 : 0 ≤ k) (hk : k ≤ 1000) (hX : QV w vX x1) (hY : QV w vY y1) (oS : Blk 3 w bs #[.int .i64 k]) (oT : Blk 3 w bt #[.int .i64 t]) :
    Calls Try.prog 42 #[.func (.func 18) #[] #[.pointer (some ⟨bs, 0, none⟩), .pointer (some ⟨bt, 0, none⟩)], vX, vY] w fun e w' => ∃ s1 s2 s3 s4 s5 s6 s7 s8, e = .returned (.tuple #[.agg #[.bool s1, .slice s2 s3 s4, .bool s5, .slice s6 s7 s8], .int .i64 (stC k t)]) ∧ QP w' s1 s2 s3 s4 s5 s6 s7 s8 (stZ k t y1) ∧ ButS bs w w' ∧ Blk 3 w' bs #[.int .i64 (stN k t)] := by
  obtain ⟨xX, aX, nX, cX, yX, eX, mX, fX, rfl, hX⟩ := hX
  obtain ⟨xY, aY, nY, cY, yY, eY, mY, fY, rfl, hY⟩ := hY
  have lS := oS.lt
  have lT := oT.lt
  have hmf : ∀ (fn : Fn) (first cap : Array Value) (w : World), (Instr.makeFunc fn first cap).run Try.prog w = .ok (.func fn first cap) w := fun _ _ _ _ => rfl
  have oX := (((Blk.new w 27 #[.bool xX, .slice aX nX cX, .bool yX, .slice eX mX fX]).alloc (.cells #[.bool xY, .slice aY nY cY, .bool yY, .slice eY mY fY] 27 (0, 0))).alloc (.cells #[.bool false, .slice none 0 0, .bool false, .slice none 0 0] 27 (0, 0))).alloc (.cells #[.int .i64 0] 35 (0, 0))
  have oY := ((Blk.new (w.alloc (.cells #[.bool xX, .slice aX nX cX, .bool yX, .slice eX mX fX] 27 (0, 0))) 27 #[.bool xY, .slice aY nY cY, .bool yY, .slice eY mY fY]).alloc (.cells #[.bool false, .slice none 0 0, .bool false, .slice none 0 0] 27 (0, 0))).alloc (.cells #[.int .i64 0] 35 (0, 0))
  have oR := (Blk.new ((w.alloc (.cells #[.bool xX, .slice aX nX cX, .bool yX, .slice eX mX fX] 27 (0, 0))).alloc (.cells #[.bool xY, .slice aY nY cY, .bool yY, .slice eY mY fY] 27 (0, 0))) 27 #[.bool false, .slice none 0 0, .bool false, .slice none 0 0]).alloc (.cells #[.int .i64 0] 35 (0, 0))
  have oE := Blk.new (((w.alloc (.cells #[.bool xX, .slice aX nX cX, .bool yX, .slice eX mX fX] 27 (0, 0))).alloc (.cells #[.bool xY, .slice aY nY cY, .bool yY, .slice eY mY fY] 27 (0, 0))).alloc (.cells #[.bool false, .slice none 0 0, .bool false, .slice none 0 0] 27 (0, 0))) 35 #[.int .i64 0]
  simp only [World.size_alloc] at oY oR oE
  have hbw : Below w.heap.size w ((((w.alloc (.cells #[.bool xX, .slice aX nX cX, .bool yX, .slice eX mX fX] 27 (0, 0))).alloc (.cells #[.bool xY, .slice aY nY cY, .bool yY, .slice eY mY fY] 27 (0, 0))).alloc (.cells #[.bool false, .slice none 0 0, .bool false, .slice none 0 0] 27 (0, 0))).alloc (.cells #[.int .i64 0] 35 (0, 0))) := by go_grown
  replace hY := hY.below hbw
  replace oS := oS.stay hbw
  replace oT := oT.stay hbw
  have ltX := oX.lt
  have ltY := oY.lt
  have ltR := oR.lt
  have ltE := oE.lt
  go_enter_defers Try.func42, Try.ntmps42
  obtain ⟨Xc0, Xc1, Xc2, Xc3⟩ := oX.four
  obtain ⟨Xq0, Xq1, Xq2, Xq3⟩ := oX.frozen4
  obtain ⟨Yc0, Yc1, Yc2, Yc3⟩ := oY.four
  obtain ⟨Yq0, Yq1, Yq2, Yq3⟩ := oY.frozen4
  go_wp2_with fail
  refine (step_any xX aX nX cX yX eX mX fX _ k t bs bt y1 _ h0 hk hY.val oS oT).mono ?_
  rintro e w1 ⟨j1, j2, j3, j4, j5, j6, j7, j8, rfl, hQ, hb, oS⟩
  clear Xc0 Xc1 Xc2 Xc3 Xq0 Xq1 Xq2 Xq3 oX ltX oY ltY
  clear Yc0 Yc1 Yc2 Yc3 Yq0 Yq1 Yq2 Yq3
  replace oR := hb.blk oR (show w.heap.size + 1 + 1 ≠ bs by omega)
  replace ltR := oR.lt
  replace oE := hb.blk oE (show w.heap.size + 1 + 1 + 1 ≠ bs by omega)
  have hB := (ButS.of hbw).trans hb
  clear hb hbw hX hY oT ltE
  obtain ⟨r0, r1, r2, r3⟩ := oR.four
  obtain ⟨f0, f1, f2, f3⟩ := oR.frozen4
  obtain ⟨e0, g0⟩ := oE.one
  have ltE := oE.lt
  go_wp2
  refine leaves_cons (f := 65) (args := #[.pointer (some ⟨w.heap.size + 1 + 1, 0, none⟩), .pointer (some ⟨w.heap.size + 1 + 1 + 1, 0, none⟩)]) (by simp) (by simp [go_sem]) ?_
  refine (catch_idle _ _ _).mono ?_
  rintro e u' w'' ⟨rfl, rfl, rfl⟩
  have kR := keepI_four (noI_slice _ _ _) (noI_slice _ _ _) oR j1 j2 j3 j4 j5 j6 j7 j8
  have oE1 := oE.other4 (show w.heap.size + 1 + 1 ≠ w.heap.size + 1 + 1 + 1 by omega) (.bool j1) (.slice j2 j3 j4) (.bool j5) (.slice j6 j7 j8)
  have hQ1 := (hQ.keepI kR).keepU (keepU_set oE1 (.int .i64 (stC k t)))
  have hB1 := (hB.set4 (show w.heap.size ≤ w.heap.size + 1 + 1 by omega) (.bool j1) (.slice j2 j3 j4) (.bool j5) (.slice j6 j7 j8)).set ⟨w.heap.size + 1 + 1 + 1, 0, none⟩ (.int .i64 (stC k t)) (Or.inr (by show w.heap.size ≤ w.heap.size + 1 + 1 + 1; omega))
  have oS1 := (oS.other4 (show w.heap.size + 1 + 1 ≠ bs by omega) (.bool j1) (.slice j2 j3 j4) (.bool j5) (.slice j6 j7 j8)).other (a := ⟨w.heap.size + 1 + 1 + 1, 0, none⟩) (show w.heap.size + 1 + 1 + 1 ≠ bs by omega) (.int .i64 (stC k t))
  refine ⟨.tuple #[.agg #[.bool j1, .slice j2 j3 j4, .bool j5, .slice j6 j7 j8], .int .i64 (stC k t)], ?_, ?_⟩
  · simp [results, Try.results42, go_sem, r0, r1, r2, r3, e0]
  · exact ⟨_, _, _, _, _, _, _, _, rfl, hQ1, hB1, oS1⟩

/-- The last of the first k, 0 if there is none. -/
def lastZ (zs : List Rat) (k : Nat) : Rat := if k = 0 then 0 else zs.getD (k - 1) 0
def foC (n : Nat) (t : Int) : Int := if 0 ≤ t ∧ t < n then 2 else 0
def foZ (zs : List Rat) (t : Int) : Rat := if 0 ≤ t ∧ t < zs.length then 0 else lastZ zs zs.length
def foN (n : Nat) (t : Int) : Int := if 0 ≤ t ∧ t < n then t else n

set_option maxRecDepth 20000 in
set_option maxHeartbeats 8000000 in
theorem fold_step (ao : Option Addr) (n cap : Nat) (zs : List Rat) (t : Int) (bs bt : Nat) (w : World) (hn : zs.length = n) (h2 : n ≤ 1000) (hs : ArrQ w ao zs) (oS : Blk 3 w bs #[.int .i64 0]) (oT : Blk 3 w bt #[.int .i64 t]) (hne : bt ≠ bs) :
    Calls Try.prog 17 #[.agg #[.bool false, .slice none 0 0, .bool false, .slice none 0 0], .slice ao n cap, .func (.func 18) #[] #[.pointer (some ⟨bs, 0, none⟩), .pointer (some ⟨bt, 0, none⟩)]] w fun e w' => ∃ s1 s2 s3 s4 s5 s6 s7 s8, e = .returned (.tuple #[.agg #[.bool s1, .slice s2 s3 s4, .bool s5, .slice s6 s7 s8], .int .i64 (foC n t)]) ∧ QP w' s1 s2 s3 s4 s5 s6 s7 s8 (foZ zs t) ∧ ButS bs w w' ∧ Blk 3 w' bs #[.int .i64 (foN n t)] := by
  have HN : Hid (zs.length = n) := hn
  clear hn
  have lS := oS.lt
  have lT := oT.lt
  have oR := ((Blk.new (w.alloc (.cells #[.bool false, .slice none 0 0, .bool false, .slice none 0 0] 27 (0, 0))) 27 #[.bool false, .slice none 0 0, .bool false, .slice none 0 0]).alloc (.cells #[.bool false, .slice none 0 0, .bool false, .slice none 0 0] 27 (0, 0)))
  have oV := Blk.new ((w.alloc (.cells #[.bool false, .slice none 0 0, .bool false, .slice none 0 0] 27 (0, 0))).alloc (.cells #[.bool false, .slice none 0 0, .bool false, .slice none 0 0] 27 (0, 0))) 27 #[.bool false, .slice none 0 0, .bool false, .slice none 0 0]
  simp only [World.size_alloc] at oR oV
  have hbw : Below w.heap.size w (((w.alloc (.cells #[.bool false, .slice none 0 0, .bool false, .slice none 0 0] 27 (0, 0))).alloc (.cells #[.bool false, .slice none 0 0, .bool false, .slice none 0 0] 27 (0, 0))).alloc (.cells #[.bool false, .slice none 0 0, .bool false, .slice none 0 0] 27 (0, 0))) := by go_grown
  have oS1 := oS.stay hbw
  have oT1 := oT.stay hbw
  go_enter Try.func17, Try.ntmps17
  go_wp2
  go_loopw [16] (fun i wr => ∃ k : Nat, ∃ (p : Rat) (xV : Bool) (aV : Option Addr) (nV cV : Nat) (yV : Bool) (eV : Option Addr) (mV fV : Nat), k ≤ n ∧ i = .int .i64 k ∧ Hid (p = lastZ zs k) ∧ Hid (¬ (0 ≤ t ∧ t < k)) ∧ Blk 27 wr (w.heap.size + 1) #[.bool false, .slice none 0 0, .bool false, .slice none 0 0] ∧ Blk 27 wr (w.heap.size + 1 + 1) #[.bool xV, .slice aV nV cV, .bool yV, .slice eV mV fV] ∧ QP wr xV aV nV cV yV eV mV fV p ∧ ButS bs w wr ∧ Blk 3 wr bs #[.int .i64 (k : Int)]) (fun i _ => n - (intOf i).toNat)
  case atStart => exact ⟨0, 0, false, none, 0, 0, false, none, 0, 0, Nat.zero_le _, rfl, rfl, (by show ¬ _; omega), oR, oV, QP.zero, ButS.of hbw, oS1⟩
  case round =>
    clear oR oV hbw oS1 oT1
    obtain ⟨k, p, xV, aV, nV, cV, yV, eV, mV, fV, hk, rfl, HP, HT, oR, oV, hV, hbw, oS1⟩ := hrel
    have hs1 := hs.butS hbw oS
    have oT1 := hbw.blk oT hne
    obtain ⟨v0, v1, v2, v3⟩ := oV.four
    have ltV := oV.lt
    have ltR := oR.lt
    by_cases h0 : k < n
    · have hkz : k < zs.length := by rw [HN.out]; exact h0
      obtain ⟨g, o, rfl⟩ := hs1.at k hkz
      rcases hs1 with hnil | ⟨g', o', he, hc⟩
      · subst hnil; simp at hkz
      cases he
      obtain ⟨xX, aX, nX, cX, yX, eX, mX, fX, c0, c1, c2, c3, hX⟩ := hc k hkz
      obtain ⟨x, hxd⟩ : ∃ x, x = zs.getD k 0 := ⟨_, rfl⟩
      rw [← hxd] at hX
      have HX : Hid (x = zs.getD k 0) := hxd
      clear hc hxd hkz
      have hn1 := below_new wr (.cells #[.bool xX, .slice aX nX cX, .bool yX, .slice eX mX fX] 27 (0, 0))
      have oS2 := oS1.stay hn1
      have oT2 := oT1.stay hn1
      go_wp2_with fail
      refine (asked_step _ _ p k t bs bt x _ (by omega) (by omega) (hV.below hn1).val (hX.below hn1).val oS2 oT2).mono ?_
      rintro e w2 ⟨j1, j2, j3, j4, j5, j6, j7, j8, rfl, hJ, hb2, oS3⟩
      have hb2' := (ButS.of hn1).trans hb2
      replace oR := hb2'.blk oR (show w.heap.size + 1 ≠ bs by omega)
      replace oV := hb2'.blk oV (show w.heap.size + 1 + 1 ≠ bs by omega)
      replace hbw := hbw.trans hb2'
      have ltV2 := oV.lt
      have ltR2 := oR.lt
      clear v0 v1 v2 v3 c0 c1 c2 c3 hb2 hb2' hn1 ltV ltR oS1 oS2 oT1 oT2
      obtain ⟨v0, v1, v2, v3⟩ := oV.four
      obtain ⟨vq0, vq1, vq2, vq3⟩ := oV.frozen4
      obtain ⟨r0, r1, r2, r3⟩ := oR.four
      obtain ⟨rq0, rq1, rq2, rq3⟩ := oR.frozen4
      by_cases hkt : (k : Int) = t
      · have HK : Hid ((k : Int) = t) := hkt
        have e1 : stC k t = 2 := if_pos hkt
        have e3 : stN k t = k := if_pos hkt
        rw [e3] at oS3
        clear hkt e3
        simp only [e1]
        go_wp2
        refine bodyPost_ret (v := .tuple #[.agg #[.bool false, .slice none 0 0, .bool false, .slice none 0 0], .int .i64 2]) (by simp [results, Try.results17, go_sem, r0, r1, r2, r3, ltR2]) rfl ?_
        have hin : 0 ≤ t ∧ t < n := by have := HK.out; omega
        have hin' : 0 ≤ t ∧ t < zs.length := by rw [HN.out]; exact hin
        refine ⟨false, none, 0, 0, false, none, 0, 0, ?_, ?_, ?_, ?_⟩
        · unfold foC; rw [if_pos hin]
        · unfold foZ; rw [if_pos hin']; exact QP.zero
        · exact (hbw.set4 (show w.heap.size ≤ w.heap.size + 1 by omega) _ _ _ _).trans (ButS.of (below_new _ _))
        · unfold foN; rw [if_pos hin, ← HK.out]; exact (oS3.other4 (show w.heap.size + 1 ≠ bs by omega) _ _ _ _).stay (below_new _ _)
      · have HK : Hid ((k : Int) ≠ t) := hkt
        have e1 : stC k t = 0 := if_neg hkt
        have e2 : stZ k t x = x := if_neg hkt
        have e3 : stN k t = k + 1 := if_neg hkt
        rw [e3] at oS3
        rw [e2] at hJ
        clear hkt e3 e2
        simp only [e1]
        have kV := keepI_four (noI_slice _ _ _) (noI_slice _ _ _) oV j1 j2 j3 j4 j5 j6 j7 j8
        have hnJ := below_new ((((w2.setCell ⟨w.heap.size + 1 + 1, 0, none⟩ (.bool j1)).setCell ⟨w.heap.size + 1 + 1, 1, none⟩ (.slice j2 j3 j4)).setCell ⟨w.heap.size + 1 + 1, 2, none⟩ (.bool j5)).setCell ⟨w.heap.size + 1 + 1, 3, none⟩ (.slice j6 j7 j8)) (.cells #[.bool j1, .slice j2 j3 j4, .bool j5, .slice j6 j7 j8] 27 (0, 0))
        have oV3 := (oV.over4 (.bool j1) (.slice j2 j3 j4) (.bool j5) (.slice j6 j7 j8)).stay hnJ
        have oR3 := (oR.other4 (show w.heap.size + 1 + 1 ≠ w.heap.size + 1 by omega) (.bool j1) (.slice j2 j3 j4) (.bool j5) (.slice j6 j7 j8)).stay hnJ
        have oS4 := (oS3.other4 (show w.heap.size + 1 + 1 ≠ bs by omega) (.bool j1) (.slice j2 j3 j4) (.bool j5) (.slice j6 j7 j8)).stay hnJ
        have hJ3 := (hJ.keepI kV).below hnJ
        have hB3 := (hbw.set4 (show w.heap.size ≤ w.heap.size + 1 + 1 by omega) (.bool j1) (.slice j2 j3 j4) (.bool j5) (.slice j6 j7 j8)).trans (ButS.of hnJ)
        clear hnJ kV
        go_wp2
        go_roundw
        case rel =>
          refine ⟨k + 1, x, j1, j2, j3, j4, j5, j6, j7, j8, by omega, by go_num, ?_, ?_, oR3, oV3, hJ3, hB3, by simpa using oS4⟩
          · show _ = _
            rw [HX.out, lastZ, if_neg (by omega)]; rfl
          · show ¬ _
            have h5 := HT.out
            have h6 := HK.out
            omega
        case measure => simp [intOf]; omega
    · obtain ⟨r0, r1, r2, r3⟩ := oR.four
      obtain ⟨rq0, rq1, rq2, rq3⟩ := oR.frozen4
      have hkn : k = n := by omega
      have HKN : Hid (k = n) := hkn
      clear hkn
      go_wp2
      refine bodyPost_ret (v := .tuple #[.agg #[.bool xV, .slice aV nV cV, .bool yV, .slice eV mV fV], .int .i64 0]) (by simp [results, Try.results17, go_sem, r0, r1, r2, r3]) rfl ?_
      have hout : ¬ (0 ≤ t ∧ t < n) := by rw [← HKN.out]; exact HT.out
      have hout' : ¬ (0 ≤ t ∧ t < zs.length) := by rw [HN.out]; exact hout
      refine ⟨xV, aV, nV, cV, yV, eV, mV, fV, ?_, ?_, hbw.set4 (show w.heap.size ≤ w.heap.size + 1 by omega) _ _ _ _, ?_⟩
      · unfold foC; rw [if_neg hout]
      · unfold foZ; rw [if_neg hout', HN.out, ← HKN.out, ← HP.out]; exact hV.keepI (keepI_four (noI_slice _ _ _) (noI_slice _ _ _) oR _ _ _ _ _ _ _ _)
      · unfold foN; rw [if_neg hout, ← HKN.out]; exact oS1.other4 (show w.heap.size + 1 ≠ bs by omega) _ _ _ _
end Go.Proofs.Ytidpbdhhbeaijab
