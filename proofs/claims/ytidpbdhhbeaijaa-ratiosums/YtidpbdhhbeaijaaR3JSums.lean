/- Contracts of suretyref01's TooBig by the number, suretyref02's Plus and Add; they prove no statement of the seat. -/
import Derived.Test.YtidpbdhhbeaijaaR2JSums
import Derived.Test.YtidpbdhhbeaijaaRAddJSums
import Derived.Test.YtidpbdhhbeaijaaQ4JSums
namespace Go.Proofs.Ytidpbdhhbeaijaa
open Go.RowKit

theorem rbig_any (v : Value) (z : Int) (L : Nat) (r : Bool) (w : World) (hv : RNum w v z L) (hL : L ≤ 10000) (hr : decide (lim ≤ z.natAbs) = r) :
    Calls Try.prog 54 #[v] w fun e w' => e = .returned (.bool r) ∧ Below w.heap.size w w' := by
  subst hr
  obtain ⟨neg, ds, h1, h2, h3⟩ := hv
  rw [h2, sv_natAbs]
  exact toobig_any v neg ds w h1 (by omega)
theorem big_yes {z : Int} (h : ¬ z.natAbs < lim) : decide (lim ≤ z.natAbs) = true := decide_eq_true (Nat.not_lt.1 h)
theorem big_no {z : Int} (h : z.natAbs < lim) : decide (lim ≤ z.natAbs) = false := decide_eq_false (Nat.not_le.2 h)
theorem QRP.small {w : World} {x : Bool} {a : Option Addr} {n c : Nat} {y : Bool} {e : Option Addr} {m f N : Nat} {q : Rat} (h : QRP w x a n c y e m f q N) (h1 : q.num.natAbs < lim) (h2 : (q.den : Int).natAbs < lim) : QRP w x a n c y e m f q 400 := by
  obtain ⟨a1, l, a2, a3⟩ := h
  refine ⟨a1.small h1, l, a2.small ?_, a3⟩
  rcases a3 with k | k
  · rw [k]; exact h2
  · rw [k.1]; have := word_lim; simp; omega
theorem fdiv_le {a b : Int} (hb : 0 < b) (h : b ∣ a) : (a.fdiv b).natAbs ≤ a.natAbs := by
  have e := fdiv_of hb h
  have : a.natAbs = (a.fdiv b).natAbs * b.natAbs := by rw [← Int.natAbs_mul, e]
  rw [this]
  exact Nat.le_mul_of_pos_right _ (by omega)
theorem sum_small {x y : Rat} (h : aFits lim x y) : (x + y).num.natAbs < lim ∧ ((x + y).den : Int).natAbs < lim := by
  rw [(add_parts x y).1, (add_parts x y).2]
  exact ⟨Nat.lt_of_le_of_lt (fdiv_le (aH_pos x y) (Int.gcd_dvd_left ..)) h.2.2.1, h.2.2.2⟩

set_option maxRecDepth 20000 in
set_option maxHeartbeats 8000000 in
theorem rqplus_any (vX vY : Value) (x1 y1 : Rat) (w : World) (hX : QRV w vX x1 400) (hY : QRV w vY y1 400) :
    Calls Try.prog 98 #[vX, vY] w fun e w' => ∃ s1 s2 s3 s4 s5 s6 s7 s8, e = .returned (.agg #[.bool s1, .slice s2 s3 s4, .bool s5, .slice s6 s7 s8]) ∧ QRP w' s1 s2 s3 s4 s5 s6 s7 s8 (x1 + y1) (3236) ∧ Below w.heap.size w w' := by
  obtain ⟨xX, aX, nX, cX, yX, eX, mX, fX, rfl, hX⟩ := hX
  obtain ⟨xY, aY, nY, cY, yY, eY, mY, fY, rfl, hY⟩ := hY
  have oX := (((Blk.new w 35 #[.bool xX, .slice aX nX cX, .bool yX, .slice eX mX fX]).alloc (.cells #[.bool xY, .slice aY nY cY, .bool yY, .slice eY mY fY] 35 (0, 0))).alloc (.cells #[.bool false, .slice none 0 0, .bool false, .slice none 0 0] 35 (0, 0)))
  have oY := ((Blk.new (w.alloc (.cells #[.bool xX, .slice aX nX cX, .bool yX, .slice eX mX fX] 35 (0, 0))) 35 #[.bool xY, .slice aY nY cY, .bool yY, .slice eY mY fY]).alloc (.cells #[.bool false, .slice none 0 0, .bool false, .slice none 0 0] 35 (0, 0)))
  have oR := (Blk.new ((w.alloc (.cells #[.bool xX, .slice aX nX cX, .bool yX, .slice eX mX fX] 35 (0, 0))).alloc (.cells #[.bool xY, .slice aY nY cY, .bool yY, .slice eY mY fY] 35 (0, 0))) 35 #[.bool false, .slice none 0 0, .bool false, .slice none 0 0])
  simp only [World.size_alloc] at oY oR
  have hbw : Below w.heap.size w (((w.alloc (.cells #[.bool xX, .slice aX nX cX, .bool yX, .slice eX mX fX] 35 (0, 0))).alloc (.cells #[.bool xY, .slice aY nY cY, .bool yY, .slice eY mY fY] 35 (0, 0))).alloc (.cells #[.bool false, .slice none 0 0, .bool false, .slice none 0 0] 35 (0, 0))) := by go_grown
  replace hX := hX.below hbw
  replace hY := hY.below hbw
  have ltX := oX.lt
  have ltY := oY.lt
  have ltR := oR.lt
  go_enter Try.func98, Try.ntmps98
  go_wp2
  generalize (((w.alloc (.cells #[.bool xX, .slice aX nX cX, .bool yX, .slice eX mX fX] 35 (0, 0))).alloc (.cells #[.bool xY, .slice aY nY cY, .bool yY, .slice eY mY fY] 35 (0, 0))).alloc (.cells #[.bool false, .slice none 0 0, .bool false, .slice none 0 0] 35 (0, 0))) = W0 at hbw oX oY oR ltX ltY ltR hX hY ⊢
  refine wp_region_M (by kernel_rfl) [5, 6, 7, 8, 9, 10, 11, 12, 13, 14, 15, 16] [none, none, none, none, none, some 5, some 6, some 7, some 8, some 9, some 10, some 11, some 12, some 13, some 14, some 15, some 16] (fun U => by kernel_rfl) (fun L U wr => Below w.heap.size w wr ∧ KeepI W0 wr ∧ W0.heap.size ≤ wr.heap.size ∧ Blk 35 wr (w.heap.size) #[.bool xX, .slice aX nX cX, .bool yX, .slice eX mX fX] ∧ Blk 35 wr (w.heap.size + 1) #[.bool xY, .slice aY nY cY, .bool yY, .slice eY mY fY] ∧ Blk 35 wr (w.heap.size + 1 + 1) #[.bool false, .slice none 0 0, .bool false, .slice none 0 0] ∧ (L 0 = true → IS (.pointer (some ⟨w.heap.size, 0, none⟩)) (U 6) wr) ∧ (L 1 = true → IS (.agg #[.bool xX, .slice aX nX cX]) (U 7) wr) ∧ (L 2 = true → IS (.agg #[.bool xY, .slice aY nY cY, .bool yY, .slice eY mY fY]) (U 8) wr) ∧ (L 3 = true → RNM (y1.den : Int) 400 (U 9) wr) ∧ (L 4 = true → RNM (x1.num * (y1.den : Int)) 801 (U 10) wr) ∧ (L 5 = true → IS (.pointer (some ⟨w.heap.size + 1, 0, none⟩)) (U 11) wr) ∧ (L 6 = true → IS (.agg #[.bool xY, .slice aY nY cY]) (U 12) wr) ∧ (L 7 = true → IS (.agg #[.bool xX, .slice aX nX cX, .bool yX, .slice eX mX fX]) (U 13) wr) ∧ (L 8 = true → RNM (x1.den : Int) 400 (U 14) wr) ∧ (L 9 = true → RNM (y1.num * (x1.den : Int)) 801 (U 15) wr) ∧ (L 10 = true → RNM (x1.num * (y1.den : Int) + y1.num * (x1.den : Int)) 1603 (U 16) wr) ∧ (L 11 = true → NEW 33 W0.heap.size wr (U 5) (bif L 12 then U 16 else .agg #[.bool false, .slice none 0 0])) ∧ (L 12 = true → L 10 = true) ∧ (L 12 = true → L 11 = true)) (by kernel_rfl) ?_ ?_ ?_
  · exact fun U => ⟨hbw.drew, KeepI.below (Below.refl _ _).drew, Nat.le_refl _, oX.drew, oY.drew, oR.drew, (fun h => by cases h), (fun h => by cases h), (fun h => by cases h), (fun h => by cases h), (fun h => by cases h), (fun h => by cases h), (fun h => by cases h), (fun h => by cases h), (fun h => by cases h), (fun h => by cases h), (fun h => by cases h), (fun h => by cases h), (fun h => by cases h), (fun h => by cases h)⟩
  · refine StepsU.run rfl ?_ ?_
    · intro L U wr hF hlk haf A K hA hK
      have HA : Hid (A = putAll _ _ U) := hA
      clear hA
      simp [Aft, Region.binds] at haf
      obtain ⟨fb, fk, fs, oX, oY, oR, f0, f1, f2, f3, f4, f5, f6, f7, f8, f9, f10, f11, s12, m11⟩ := hF
      have e2 : A.tmps[2]? = some (.pointer (some ⟨w.heap.size, 0, none⟩)) := by rw [HA.out]; kernel_rfl
      refine ⟨?_⟩
      go_simp
      refine hK (upd U 6 (.pointer (some ⟨w.heap.size, 0, none⟩))) _ _ ?_ ?_
      · rw [HA.out]; kernel_rfl
      · exact ⟨fb, fk, fs, oX, oY, oR, (fun _ => rfl), f1, f2, f3, f4, f5, f6, f7, f8, f9, f10, f11, s12, m11⟩
    refine StepsU.run rfl ?_ ?_
    · intro L U wr hF hlk haf A K hA hK
      have HA : Hid (A = putAll _ _ U) := hA
      clear hA
      simp [Aft, Region.binds] at haf
      obtain ⟨fb, fk, fs, oX, oY, oR, f0, f1, f2, f3, f4, f5, f6, f7, f8, f9, f10, f11, s12, m11⟩ := hF
      have g0 := f0 (by simp [haf])
      have e6 := rd HA.out 6 (by kernel_rfl) g0
      obtain ⟨c0, c1, c2, c3⟩ := oX.four
      refine ⟨?_⟩
      go_simp
      refine hK (upd U 7 (.agg #[.bool xX, .slice aX nX cX])) _ _ ?_ ?_
      · rw [HA.out]; kernel_rfl
      · exact ⟨fb, fk, fs, oX, oY, oR, f0, (fun _ => rfl), f2, f3, f4, f5, f6, f7, f8, f9, f10, f11, s12, m11⟩
    refine StepsU.run rfl ?_ ?_
    · intro L U wr hF hlk haf A K hA hK
      have HA : Hid (A = putAll _ _ U) := hA
      clear hA
      simp [Aft, Region.binds] at haf
      obtain ⟨fb, fk, fs, oX, oY, oR, f0, f1, f2, f3, f4, f5, f6, f7, f8, f9, f10, f11, s12, m11⟩ := hF
      have e3 : A.tmps[3]? = some (.pointer (some ⟨w.heap.size + 1, 0, none⟩)) := by rw [HA.out]; kernel_rfl
      obtain ⟨c0, c1, c2, c3⟩ := oY.four
      refine ⟨?_⟩
      go_simp
      refine hK (upd U 8 (.agg #[.bool xY, .slice aY nY cY, .bool yY, .slice eY mY fY])) _ _ ?_ ?_
      · rw [HA.out]; kernel_rfl
      · exact ⟨fb, fk, fs, oX, oY, oR, f0, f1, (fun _ => rfl), f3, f4, f5, f6, f7, f8, f9, f10, f11, s12, m11⟩
    refine StepsU.run rfl ?_ ?_
    · intro L U wr hF hlk haf A K hA hK
      have HA : Hid (A = putAll _ _ U) := hA
      clear hA
      simp [Aft, Region.binds] at haf
      obtain ⟨fb, fk, fs, oX, oY, oR, f0, f1, f2, f3, f4, f5, f6, f7, f8, f9, f10, f11, s12, m11⟩ := hF
      have g2 := f2 (by simp [haf])
      have e8 := rd HA.out 8 (by kernel_rfl) g2
      refine ⟨?_⟩
      go_simp
      refine (low_any _ y1 400 _ (hY.val.keepI fk) (by decide)).mono ?_
      rintro e w1 ⟨u1, u2, u3, u4, rfl, hr, hb⟩
      go_simp
      refine hK (upd U 9 (.agg #[.bool u1, .slice u2 u3 u4])) _ _ ?_ ?_
      · rw [HA.out]; kernel_rfl
      · exact ⟨(fb.step hb (Nat.le_refl _)), (fk.trans (KeepI.below hb)), (Nat.le_trans fs hb.size), (oX.stay hb), (oY.stay hb), (oR.stay hb), (mv mo_is (KeepI.below hb) f0), (mv mo_is (KeepI.below hb) f1), (mv mo_is (KeepI.below hb) f2), (fun _ => hr), (mv mo_rnm (KeepI.below hb) f4), (mv mo_is (KeepI.below hb) f5), (mv mo_is (KeepI.below hb) f6), (mv mo_is (KeepI.below hb) f7), (mv mo_rnm (KeepI.below hb) f8), (mv mo_rnm (KeepI.below hb) f9), (mv mo_rnm (KeepI.below hb) f10), (fun h => (f11 h).below hb), s12, m11⟩
    refine StepsU.run rfl ?_ ?_
    · intro L U wr hF hlk haf A K hA hK
      have HA : Hid (A = putAll _ _ U) := hA
      clear hA
      simp [Aft, Region.binds] at haf
      obtain ⟨fb, fk, fs, oX, oY, oR, f0, f1, f2, f3, f4, f5, f6, f7, f8, f9, f10, f11, s12, m11⟩ := hF
      have g1 := f1 (by simp [haf])
      have e7 := rd HA.out 7 (by kernel_rfl) g1
      have g3 := f3 (by simp [haf])
      have e9 := rd HA.out 9 (by kernel_rfl) rfl
      refine ⟨?_⟩
      go_simp
      refine (rMul_any _ _ x1.num (y1.den : Int) _ 400 400 _ (hX.1.keepI fk) g3 (by decide) rfl).mono ?_
      rintro e w1 ⟨u1, u2, u3, u4, rfl, hr, hb⟩
      go_simp
      refine hK (upd U 10 (.agg #[.bool u1, .slice u2 u3 u4])) _ _ ?_ ?_
      · rw [HA.out]; kernel_rfl
      · exact ⟨(fb.step hb (Nat.le_refl _)), (fk.trans (KeepI.below hb)), (Nat.le_trans fs hb.size), (oX.stay hb), (oY.stay hb), (oR.stay hb), (mv mo_is (KeepI.below hb) f0), (mv mo_is (KeepI.below hb) f1), (mv mo_is (KeepI.below hb) f2), (mv mo_rnm (KeepI.below hb) f3), (fun _ => hr), (mv mo_is (KeepI.below hb) f5), (mv mo_is (KeepI.below hb) f6), (mv mo_is (KeepI.below hb) f7), (mv mo_rnm (KeepI.below hb) f8), (mv mo_rnm (KeepI.below hb) f9), (mv mo_rnm (KeepI.below hb) f10), (fun h => (f11 h).below hb), s12, m11⟩
    refine StepsU.run rfl ?_ ?_
    · intro L U wr hF hlk haf A K hA hK
      have HA : Hid (A = putAll _ _ U) := hA
      clear hA
      simp [Aft, Region.binds] at haf
      obtain ⟨fb, fk, fs, oX, oY, oR, f0, f1, f2, f3, f4, f5, f6, f7, f8, f9, f10, f11, s12, m11⟩ := hF
      have e3 : A.tmps[3]? = some (.pointer (some ⟨w.heap.size + 1, 0, none⟩)) := by rw [HA.out]; kernel_rfl
      refine ⟨?_⟩
      go_simp
      refine hK (upd U 11 (.pointer (some ⟨w.heap.size + 1, 0, none⟩))) _ _ ?_ ?_
      · rw [HA.out]; kernel_rfl
      · exact ⟨fb, fk, fs, oX, oY, oR, f0, f1, f2, f3, f4, (fun _ => rfl), f6, f7, f8, f9, f10, f11, s12, m11⟩
    refine StepsU.run rfl ?_ ?_
    · intro L U wr hF hlk haf A K hA hK
      have HA : Hid (A = putAll _ _ U) := hA
      clear hA
      simp [Aft, Region.binds] at haf
      obtain ⟨fb, fk, fs, oX, oY, oR, f0, f1, f2, f3, f4, f5, f6, f7, f8, f9, f10, f11, s12, m11⟩ := hF
      have g5 := f5 (by simp [haf])
      have e11 := rd HA.out 11 (by kernel_rfl) g5
      obtain ⟨c0, c1, c2, c3⟩ := oY.four
      refine ⟨?_⟩
      go_simp
      refine hK (upd U 12 (.agg #[.bool xY, .slice aY nY cY])) _ _ ?_ ?_
      · rw [HA.out]; kernel_rfl
      · exact ⟨fb, fk, fs, oX, oY, oR, f0, f1, f2, f3, f4, f5, (fun _ => rfl), f7, f8, f9, f10, f11, s12, m11⟩
    refine StepsU.run rfl ?_ ?_
    · intro L U wr hF hlk haf A K hA hK
      have HA : Hid (A = putAll _ _ U) := hA
      clear hA
      simp [Aft, Region.binds] at haf
      obtain ⟨fb, fk, fs, oX, oY, oR, f0, f1, f2, f3, f4, f5, f6, f7, f8, f9, f10, f11, s12, m11⟩ := hF
      have e2 : A.tmps[2]? = some (.pointer (some ⟨w.heap.size, 0, none⟩)) := by rw [HA.out]; kernel_rfl
      obtain ⟨c0, c1, c2, c3⟩ := oX.four
      refine ⟨?_⟩
      go_simp
      refine hK (upd U 13 (.agg #[.bool xX, .slice aX nX cX, .bool yX, .slice eX mX fX])) _ _ ?_ ?_
      · rw [HA.out]; kernel_rfl
      · exact ⟨fb, fk, fs, oX, oY, oR, f0, f1, f2, f3, f4, f5, f6, (fun _ => rfl), f8, f9, f10, f11, s12, m11⟩
    refine StepsU.run rfl ?_ ?_
    · intro L U wr hF hlk haf A K hA hK
      have HA : Hid (A = putAll _ _ U) := hA
      clear hA
      simp [Aft, Region.binds] at haf
      obtain ⟨fb, fk, fs, oX, oY, oR, f0, f1, f2, f3, f4, f5, f6, f7, f8, f9, f10, f11, s12, m11⟩ := hF
      have g7 := f7 (by simp [haf])
      have e13 := rd HA.out 13 (by kernel_rfl) g7
      refine ⟨?_⟩
      go_simp
      refine (low_any _ x1 400 _ (hX.val.keepI fk) (by decide)).mono ?_
      rintro e w1 ⟨u1, u2, u3, u4, rfl, hr, hb⟩
      go_simp
      refine hK (upd U 14 (.agg #[.bool u1, .slice u2 u3 u4])) _ _ ?_ ?_
      · rw [HA.out]; kernel_rfl
      · exact ⟨(fb.step hb (Nat.le_refl _)), (fk.trans (KeepI.below hb)), (Nat.le_trans fs hb.size), (oX.stay hb), (oY.stay hb), (oR.stay hb), (mv mo_is (KeepI.below hb) f0), (mv mo_is (KeepI.below hb) f1), (mv mo_is (KeepI.below hb) f2), (mv mo_rnm (KeepI.below hb) f3), (mv mo_rnm (KeepI.below hb) f4), (mv mo_is (KeepI.below hb) f5), (mv mo_is (KeepI.below hb) f6), (mv mo_is (KeepI.below hb) f7), (fun _ => hr), (mv mo_rnm (KeepI.below hb) f9), (mv mo_rnm (KeepI.below hb) f10), (fun h => (f11 h).below hb), s12, m11⟩
    refine StepsU.run rfl ?_ ?_
    · intro L U wr hF hlk haf A K hA hK
      have HA : Hid (A = putAll _ _ U) := hA
      clear hA
      simp [Aft, Region.binds] at haf
      obtain ⟨fb, fk, fs, oX, oY, oR, f0, f1, f2, f3, f4, f5, f6, f7, f8, f9, f10, f11, s12, m11⟩ := hF
      have g6 := f6 (by simp [haf])
      have e12 := rd HA.out 12 (by kernel_rfl) g6
      have g8 := f8 (by simp [haf])
      have e14 := rd HA.out 14 (by kernel_rfl) rfl
      refine ⟨?_⟩
      go_simp
      refine (rMul_any _ _ y1.num (x1.den : Int) _ 400 400 _ (hY.1.keepI fk) g8 (by decide) rfl).mono ?_
      rintro e w1 ⟨u1, u2, u3, u4, rfl, hr, hb⟩
      go_simp
      refine hK (upd U 15 (.agg #[.bool u1, .slice u2 u3 u4])) _ _ ?_ ?_
      · rw [HA.out]; kernel_rfl
      · exact ⟨(fb.step hb (Nat.le_refl _)), (fk.trans (KeepI.below hb)), (Nat.le_trans fs hb.size), (oX.stay hb), (oY.stay hb), (oR.stay hb), (mv mo_is (KeepI.below hb) f0), (mv mo_is (KeepI.below hb) f1), (mv mo_is (KeepI.below hb) f2), (mv mo_rnm (KeepI.below hb) f3), (mv mo_rnm (KeepI.below hb) f4), (mv mo_is (KeepI.below hb) f5), (mv mo_is (KeepI.below hb) f6), (mv mo_is (KeepI.below hb) f7), (mv mo_rnm (KeepI.below hb) f8), (fun _ => hr), (mv mo_rnm (KeepI.below hb) f10), (fun h => (f11 h).below hb), s12, m11⟩
    refine StepsU.run rfl ?_ ?_
    · intro L U wr hF hlk haf A K hA hK
      have HA : Hid (A = putAll _ _ U) := hA
      clear hA
      simp [Aft, Region.binds] at haf
      obtain ⟨fb, fk, fs, oX, oY, oR, f0, f1, f2, f3, f4, f5, f6, f7, f8, f9, f10, f11, s12, m11⟩ := hF
      have g4 := f4 (by simp [haf])
      have e10 := rd HA.out 10 (by kernel_rfl) rfl
      have g9 := f9 (by simp [haf])
      have e15 := rd HA.out 15 (by kernel_rfl) rfl
      refine ⟨?_⟩
      go_simp
      refine (rAdd_any _ _ (x1.num * (y1.den : Int)) (y1.num * (x1.den : Int)) _ 801 801 _ g4 g9 (by decide) rfl).mono ?_
      rintro e w1 ⟨u1, u2, u3, u4, rfl, hr, hb⟩
      go_simp
      have hs12 : L 12 = false := by cases h : L 12 with | false => rfl | true => rw [s12 h] at hlk; cases hlk
      refine hK (upd U 16 (.agg #[.bool u1, .slice u2 u3 u4])) _ _ ?_ ?_
      · rw [HA.out]; kernel_rfl
      · exact ⟨(fb.step hb (Nat.le_refl _)), (fk.trans (KeepI.below hb)), (Nat.le_trans fs hb.size), (oX.stay hb), (oY.stay hb), (oR.stay hb), (mv mo_is (KeepI.below hb) f0), (mv mo_is (KeepI.below hb) f1), (mv mo_is (KeepI.below hb) f2), (mv mo_rnm (KeepI.below hb) f3), (mv mo_rnm (KeepI.below hb) f4), (mv mo_is (KeepI.below hb) f5), (mv mo_is (KeepI.below hb) f6), (mv mo_is (KeepI.below hb) f7), (mv mo_rnm (KeepI.below hb) f8), (mv mo_rnm (KeepI.below hb) f9), (fun _ => hr), (fun h => flip_v (P := fun v => NEW _ _ _ _ v) hs12 ((fun h => (f11 h).below hb) h)), (fun _ => rfl), m11⟩
    refine StepsU.run rfl ?_ ?_
    · intro L U wr hF hlk haf A K hA hK
      have HA : Hid (A = putAll _ _ U) := hA
      clear hA
      simp [Aft, Region.binds] at haf
      obtain ⟨fb, fk, fs, oX, oY, oR, f0, f1, f2, f3, f4, f5, f6, f7, f8, f9, f10, f11, s12, m11⟩ := hF
      have hst : L 12 = false := by cases h : L 12 with | false => rfl | true => rw [m11 h] at hlk; cases hlk
      refine ⟨?_⟩
      go_simp
      have hb := below_new wr (.cells #[.bool false, .slice none 0 0] 33 (0, 0))
      refine hK (upd U 5 (.pointer (some ⟨wr.heap.size, 0, none⟩))) _ _ ?_ ?_
      · rw [HA.out]; kernel_rfl
      · exact ⟨(fb.step hb (Nat.le_refl _)), (fk.trans (KeepI.below hb)), (Nat.le_trans fs hb.size), (oX.stay hb), (oY.stay hb), (oR.stay hb), (mv mo_is (KeepI.below hb) f0), (mv mo_is (KeepI.below hb) f1), (mv mo_is (KeepI.below hb) f2), (mv mo_rnm (KeepI.below hb) f3), (mv mo_rnm (KeepI.below hb) f4), (mv mo_is (KeepI.below hb) f5), (mv mo_is (KeepI.below hb) f6), (mv mo_is (KeepI.below hb) f7), (mv mo_rnm (KeepI.below hb) f8), (mv mo_rnm (KeepI.below hb) f9), (mv mo_rnm (KeepI.below hb) f10), (fun _ => new_zero hst (NEW.mk fs (noI2 _ _ _ _))), s12, (fun _ => rfl)⟩
    refine StepsU.run rfl ?_ StepsU.nil
    · intro L U wr hF hlk haf A K hA hK
      have HA : Hid (A = putAll _ _ U) := hA
      clear hA
      simp [Aft, Region.binds] at haf
      obtain ⟨fb, fk, fs, oX, oY, oR, f0, f1, f2, f3, f4, f5, f6, f7, f8, f9, f10, f11, s12, m11⟩ := hF
      have g10 := f10 (by simp [haf])
      obtain ⟨px, pa, pn, pc, hsrc⟩ := RNum.shape g10
      have e16 := rd HA.out 16 (by kernel_rfl) hsrc
      have gA := f11 (by simp [haf])
      simp only [hlk, cond_false] at gA
      obtain ⟨b, cs, hp, hBb, hcs, hblk, -⟩ := gA
      injection hcs with hcs
      subst hcs
      have e5 := rd HA.out 5 (by kernel_rfl) hp
      obtain ⟨c0, c1, q0, q1⟩ := hblk.two
      refine ⟨?_⟩
      go_simp
      have hk := keepI_two hblk px pa pn pc
      refine hK U _ _ ?_ ?_
      · exact HA.out
      · exact ⟨(below_store2 fb (Nat.le_trans hbw.size hBb) _ _), (fk.trans hk), (by simpa using fs), (oX.other2 (Nat.ne_of_gt (Nat.lt_of_lt_of_le ltX hBb)) _ _), (oY.other2 (Nat.ne_of_gt (Nat.lt_of_lt_of_le ltY hBb)) _ _), (oR.other2 (Nat.ne_of_gt (Nat.lt_of_lt_of_le ltR hBb)) _ _), (mv mo_is hk f0), (mv mo_is hk f1), (mv mo_is hk f2), (mv mo_rnm hk f3), (mv mo_rnm hk f4), (mv mo_is hk f5), (mv mo_is hk f6), (mv mo_is hk f7), (mv mo_rnm hk f8), (mv mo_rnm hk f9), (mv mo_rnm hk f10), (fun _ => stored_new hp hsrc (NEW.over2 hBb hblk px pa pn pc)), (fun _ => by simp [haf]), (fun _ => by simp [haf])⟩
  intro L U1 V1 hall hF
  have hbw0 := hbw
  clear hbw
  obtain ⟨hbw, fk, fs, oX, oY, oR, f0, f1, f2, f3, f4, f5, f6, f7, f8, f9, f10, f11, s12, m11⟩ := hF
  clear s12 m11
  have g0 := f0 (hall 0 (by decide))
  have g1 := f1 (hall 1 (by decide))
  have g2 := f2 (hall 2 (by decide))
  have g3 := f3 (hall 3 (by decide))
  have g4 := f4 (hall 4 (by decide))
  have g5 := f5 (hall 5 (by decide))
  have g6 := f6 (hall 6 (by decide))
  have g7 := f7 (hall 7 (by decide))
  have g8 := f8 (hall 8 (by decide))
  have g9 := f9 (hall 9 (by decide))
  have g10 := f10 (hall 10 (by decide))
  have g11 := f11 (hall 11 (by decide))
  rw [hall 12 (by decide), cond_true] at g11
  clear hall f0 f1 f2 f3 f4 f5 f6 f7 f8 f9 f10 f11
  replace hX := hX.keepI fk
  replace hY := hY.keepI fk
  obtain ⟨bU, csU, hpU, lbU, hcsU, oU, -⟩ := g11
  obtain ⟨xU, aU, nU, cU, hvU⟩ := RNum.shape g10
  have hU : RNum _ _ _ _ := g10
  rw [hvU] at hU
  rw [hvU] at hcsU
  injection hcsU with hcsU
  subst hcsU
  have ltU := oU.lt
  have neXU : w.heap.size ≠ bU := Nat.ne_of_lt (Nat.lt_of_lt_of_le ltX lbU)
  have neYU : w.heap.size + 1 ≠ bU := Nat.ne_of_lt (Nat.lt_of_lt_of_le ltY lbU)
  have neRU : w.heap.size + 1 + 1 ≠ bU := Nat.ne_of_lt (Nat.lt_of_lt_of_le ltR lbU)
  have lwU : w.heap.size ≤ bU := Nat.le_trans hbw0.size lbU
  clear lbU
  replace ltX := Nat.lt_of_lt_of_le ltX fs
  replace ltY := Nat.lt_of_lt_of_le ltY fs
  replace ltR := Nat.lt_of_lt_of_le ltR fs
  clear g0
  clear g1
  clear g2
  clear g3
  clear g4
  clear g5
  clear g6
  clear g7
  clear g8
  clear g9
  clear g10
  clear hbw0
  simp only [setM_some, setM_none, setM_nil]
  rw [hpU]
  clear hpU hvU
  clear fk fs
  have HD : Hid ((x1.den : Int) * (y1.den : Int) ≠ 0) := Int.ne_of_gt (Int.mul_pos (den_pos x1) (den_pos y1))
  go_wp2
  have rR := oR
  clear oR
  have geR : w.heap.size ≤ w.heap.size + 1 + 1 := by omega
  have neRX : w.heap.size + 1 + 1 ≠ w.heap.size := by omega
  have neRY : w.heap.size + 1 + 1 ≠ w.heap.size + 1 := by omega
  refine wp_region_M (by kernel_rfl) [17, 18, 19, 20, 21, 22, 23] [none, none, none, none, none, none, none, none, none, none, none, none, none, none, none, none, none, some 17, some 18, some 19, some 20, some 21, some 22, some 23] (fun U => by kernel_rfl) (fun L U wr => Below w.heap.size w wr ∧ KeepI V1 wr ∧ V1.heap.size ≤ wr.heap.size ∧ Blk 35 wr (w.heap.size) #[.bool xX, .slice aX nX cX, .bool yX, .slice eX mX fX] ∧ Blk 35 wr (w.heap.size + 1) #[.bool xY, .slice aY nY cY, .bool yY, .slice eY mY fY] ∧ Blk 33 wr (bU) #[.bool xU, .slice aU nU cU] ∧ BlkV 35 wr (w.heap.size + 1 + 1) (bif L 7 then U 23 else .agg #[.bool false, .slice none 0 0, .bool false, .slice none 0 0]) ∧ (L 0 = true → IS (.agg #[.bool xU, .slice aU nU cU]) (U 17) wr) ∧ (L 1 = true → IS (.agg #[.bool xX, .slice aX nX cX, .bool yX, .slice eX mX fX]) (U 18) wr) ∧ (L 2 = true → RNM (x1.den : Int) 400 (U 19) wr) ∧ (L 3 = true → IS (.agg #[.bool xY, .slice aY nY cY, .bool yY, .slice eY mY fY]) (U 20) wr) ∧ (L 4 = true → RNM (y1.den : Int) 400 (U 21) wr) ∧ (L 5 = true → RNM ((x1.den : Int) * (y1.den : Int)) 801 (U 22) wr) ∧ (L 6 = true → RRT (Rat.divInt (x1.num * (y1.den : Int) + y1.num * (x1.den : Int)) ((x1.den : Int) * (y1.den : Int))) 3236 (U 23) wr) ∧ (L 7 = true → L 6 = true)) (by kernel_rfl) ?_ ?_ ?_
  · exact fun U => ⟨hbw.drew, KeepI.below (Below.refl _ _).drew, Nat.le_refl _, oX.drew, oY.drew, oU.drew, ⟨_, rfl, rR.drew⟩, (fun h => by cases h), (fun h => by cases h), (fun h => by cases h), (fun h => by cases h), (fun h => by cases h), (fun h => by cases h), (fun h => by cases h), (fun h => by cases h)⟩
  · refine StepsU.run rfl ?_ ?_
    · intro L U wr hF hlk haf A K hA hK
      have HA : Hid (A = putAll _ _ U) := hA
      clear hA
      simp [Aft, Region.binds] at haf
      obtain ⟨fb, fk, fs, oX, oY, oU, rR, f0, f1, f2, f3, f4, f5, f6, s7⟩ := hF
      have e5 : A.tmps[5]? = some (.pointer (some ⟨bU, 0, none⟩)) := by rw [HA.out]; kernel_rfl
      obtain ⟨c0, c1, -, -⟩ := oU.two
      refine ⟨?_⟩
      go_simp
      refine hK (upd U 17 (.agg #[.bool xU, .slice aU nU cU])) _ _ ?_ ?_
      · rw [HA.out]; kernel_rfl
      · exact ⟨fb, fk, fs, oX, oY, oU, rR, (fun _ => rfl), f1, f2, f3, f4, f5, f6, s7⟩
    refine StepsU.run rfl ?_ ?_
    · intro L U wr hF hlk haf A K hA hK
      have HA : Hid (A = putAll _ _ U) := hA
      clear hA
      simp [Aft, Region.binds] at haf
      obtain ⟨fb, fk, fs, oX, oY, oU, rR, f0, f1, f2, f3, f4, f5, f6, s7⟩ := hF
      have e2 : A.tmps[2]? = some (.pointer (some ⟨w.heap.size, 0, none⟩)) := by rw [HA.out]; kernel_rfl
      obtain ⟨c0, c1, c2, c3⟩ := oX.four
      refine ⟨?_⟩
      go_simp
      refine hK (upd U 18 (.agg #[.bool xX, .slice aX nX cX, .bool yX, .slice eX mX fX])) _ _ ?_ ?_
      · rw [HA.out]; kernel_rfl
      · exact ⟨fb, fk, fs, oX, oY, oU, rR, f0, (fun _ => rfl), f2, f3, f4, f5, f6, s7⟩
    refine StepsU.run rfl ?_ ?_
    · intro L U wr hF hlk haf A K hA hK
      have HA : Hid (A = putAll _ _ U) := hA
      clear hA
      simp [Aft, Region.binds] at haf
      obtain ⟨fb, fk, fs, oX, oY, oU, rR, f0, f1, f2, f3, f4, f5, f6, s7⟩ := hF
      have g1 := f1 (by simp [haf])
      have e18 := rd HA.out 18 (by kernel_rfl) g1
      refine ⟨?_⟩
      go_simp
      refine (low_any _ x1 400 _ (hX.val.keepI fk) (by decide)).mono ?_
      rintro e w1 ⟨u1, u2, u3, u4, rfl, hr, hb⟩
      go_simp
      refine hK (upd U 19 (.agg #[.bool u1, .slice u2 u3 u4])) _ _ ?_ ?_
      · rw [HA.out]; kernel_rfl
      · exact ⟨(fb.step hb (Nat.le_refl _)), (fk.trans (KeepI.below hb)), (Nat.le_trans fs hb.size), (oX.stay hb), (oY.stay hb), (oU.stay hb), (rR.stay hb), (mv mo_is (KeepI.below hb) f0), (mv mo_is (KeepI.below hb) f1), (fun _ => hr), (mv mo_is (KeepI.below hb) f3), (mv mo_rnm (KeepI.below hb) f4), (mv mo_rnm (KeepI.below hb) f5), (mv mo_rrt (KeepI.below hb) f6), s7⟩
    refine StepsU.run rfl ?_ ?_
    · intro L U wr hF hlk haf A K hA hK
      have HA : Hid (A = putAll _ _ U) := hA
      clear hA
      simp [Aft, Region.binds] at haf
      obtain ⟨fb, fk, fs, oX, oY, oU, rR, f0, f1, f2, f3, f4, f5, f6, s7⟩ := hF
      have e3 : A.tmps[3]? = some (.pointer (some ⟨w.heap.size + 1, 0, none⟩)) := by rw [HA.out]; kernel_rfl
      obtain ⟨c0, c1, c2, c3⟩ := oY.four
      refine ⟨?_⟩
      go_simp
      refine hK (upd U 20 (.agg #[.bool xY, .slice aY nY cY, .bool yY, .slice eY mY fY])) _ _ ?_ ?_
      · rw [HA.out]; kernel_rfl
      · exact ⟨fb, fk, fs, oX, oY, oU, rR, f0, f1, f2, (fun _ => rfl), f4, f5, f6, s7⟩
    refine StepsU.run rfl ?_ ?_
    · intro L U wr hF hlk haf A K hA hK
      have HA : Hid (A = putAll _ _ U) := hA
      clear hA
      simp [Aft, Region.binds] at haf
      obtain ⟨fb, fk, fs, oX, oY, oU, rR, f0, f1, f2, f3, f4, f5, f6, s7⟩ := hF
      have g3 := f3 (by simp [haf])
      have e20 := rd HA.out 20 (by kernel_rfl) g3
      refine ⟨?_⟩
      go_simp
      refine (low_any _ y1 400 _ (hY.val.keepI fk) (by decide)).mono ?_
      rintro e w1 ⟨u1, u2, u3, u4, rfl, hr, hb⟩
      go_simp
      refine hK (upd U 21 (.agg #[.bool u1, .slice u2 u3 u4])) _ _ ?_ ?_
      · rw [HA.out]; kernel_rfl
      · exact ⟨(fb.step hb (Nat.le_refl _)), (fk.trans (KeepI.below hb)), (Nat.le_trans fs hb.size), (oX.stay hb), (oY.stay hb), (oU.stay hb), (rR.stay hb), (mv mo_is (KeepI.below hb) f0), (mv mo_is (KeepI.below hb) f1), (mv mo_rnm (KeepI.below hb) f2), (mv mo_is (KeepI.below hb) f3), (fun _ => hr), (mv mo_rnm (KeepI.below hb) f5), (mv mo_rrt (KeepI.below hb) f6), s7⟩
    refine StepsU.run rfl ?_ ?_
    · intro L U wr hF hlk haf A K hA hK
      have HA : Hid (A = putAll _ _ U) := hA
      clear hA
      simp [Aft, Region.binds] at haf
      obtain ⟨fb, fk, fs, oX, oY, oU, rR, f0, f1, f2, f3, f4, f5, f6, s7⟩ := hF
      have g2 := f2 (by simp [haf])
      have e19 := rd HA.out 19 (by kernel_rfl) rfl
      have g4 := f4 (by simp [haf])
      have e21 := rd HA.out 21 (by kernel_rfl) rfl
      refine ⟨?_⟩
      go_simp
      refine (rMul_any _ _ (x1.den : Int) (y1.den : Int) _ 400 400 _ g2 g4 (by decide) rfl).mono ?_
      rintro e w1 ⟨u1, u2, u3, u4, rfl, hr, hb⟩
      go_simp
      refine hK (upd U 22 (.agg #[.bool u1, .slice u2 u3 u4])) _ _ ?_ ?_
      · rw [HA.out]; kernel_rfl
      · exact ⟨(fb.step hb (Nat.le_refl _)), (fk.trans (KeepI.below hb)), (Nat.le_trans fs hb.size), (oX.stay hb), (oY.stay hb), (oU.stay hb), (rR.stay hb), (mv mo_is (KeepI.below hb) f0), (mv mo_is (KeepI.below hb) f1), (mv mo_rnm (KeepI.below hb) f2), (mv mo_is (KeepI.below hb) f3), (mv mo_rnm (KeepI.below hb) f4), (fun _ => hr), (mv mo_rrt (KeepI.below hb) f6), s7⟩
    refine StepsU.run rfl ?_ ?_
    · intro L U wr hF hlk haf A K hA hK
      have HA : Hid (A = putAll _ _ U) := hA
      clear hA
      simp [Aft, Region.binds] at haf
      obtain ⟨fb, fk, fs, oX, oY, oU, rR, f0, f1, f2, f3, f4, f5, f6, s7⟩ := hF
      have g0 := f0 (by simp [haf])
      have e17 := rd HA.out 17 (by kernel_rfl) g0
      have g5 := f5 (by simp [haf])
      have e22 := rd HA.out 22 (by kernel_rfl) rfl
      refine ⟨?_⟩
      go_simp
      refine (rlowest_any _ _ _ _ 1603 _ (hU.keepI fk) (RNum.mono g5 (by decide)) HD.out (by decide)).mono ?_
      rintro e w1 ⟨z1, z2, z3, z4, z5, z6, z7, z8, rfl, hr, hb⟩
      go_simp
      have hs7 : L 7 = false := by cases h : L 7 with | false => rfl | true => rw [s7 h] at hlk; cases hlk
      refine hK (upd U 23 (.agg #[.bool z1, .slice z2 z3 z4, .bool z5, .slice z6 z7 z8])) _ _ ?_ ?_
      · rw [HA.out]; kernel_rfl
      · exact ⟨(fb.step hb (Nat.le_refl _)), (fk.trans (KeepI.below hb)), (Nat.le_trans fs hb.size), (oX.stay hb), (oY.stay hb), (oU.stay hb), (flip_v (P := fun v => BlkV _ _ _ v) hs7 (rR.stay hb)), (mv mo_is (KeepI.below hb) f0), (mv mo_is (KeepI.below hb) f1), (mv mo_rnm (KeepI.below hb) f2), (mv mo_is (KeepI.below hb) f3), (mv mo_rnm (KeepI.below hb) f4), (mv mo_rnm (KeepI.below hb) f5), (fun _ => hr.val), (fun _ => rfl)⟩
    refine StepsU.run rfl ?_ StepsU.nil
    · intro L U wr hF hlk haf A K hA hK
      have HA : Hid (A = putAll _ _ U) := hA
      clear hA
      simp [Aft, Region.binds] at haf
      obtain ⟨fb, fk, fs, oX, oY, oU, rR, f0, f1, f2, f3, f4, f5, f6, s7⟩ := hF
      have g6 := f6 (by simp [haf])
      obtain ⟨px, pa, pn, pc, qx, qa, qn, qc, hsrc, -⟩ := g6
      have e23 := rd HA.out 23 (by kernel_rfl) hsrc
      have e4 : A.tmps[4]? = some (.pointer (some ⟨w.heap.size + 1 + 1, 0, none⟩)) := by rw [HA.out]; kernel_rfl
      simp only [hlk, cond_false] at rR
      obtain ⟨cs, hcs, hblk⟩ := rR
      injection hcs with hcs
      subst hcs
      obtain ⟨c0, c1, c2, c3⟩ := hblk.four
      obtain ⟨q0, q1, q2, q3⟩ := hblk.frozen4
      refine ⟨?_⟩
      go_simp
      have hk := keepI_four (noI_slice _ _ _) (noI_slice _ _ _) hblk px pa pn pc qx qa qn qc
      refine hK U _ _ ?_ ?_
      · exact HA.out
      · exact ⟨(below_store4 fb geR _ _ _ _), (fk.trans hk), (by simpa using fs), (oX.other4 neRX _ _ _ _), (oY.other4 neRY _ _ _ _), (oU.other4 neRU _ _ _ _), (stored_old hsrc (hblk.over4 _ _ _ _)), (mv mo_is hk f0), (mv mo_is hk f1), (mv mo_rnm hk f2), (mv mo_is hk f3), (mv mo_rnm hk f4), (mv mo_rnm hk f5), (mv mo_rrt hk f6), (fun _ => by simp [haf])⟩
  intro L U2 V2 hall hF
  have hbw0 := hbw
  clear hbw
  obtain ⟨hbw, fk, fs, oX, oY, oU, rR, f0, f1, f2, f3, f4, f5, f6, s7⟩ := hF
  clear s7
  have g0 := f0 (hall 0 (by decide))
  have g1 := f1 (hall 1 (by decide))
  have g2 := f2 (hall 2 (by decide))
  have g3 := f3 (hall 3 (by decide))
  have g4 := f4 (hall 4 (by decide))
  have g5 := f5 (hall 5 (by decide))
  have g6 := f6 (hall 6 (by decide))
  rw [hall 7 (by decide), cond_true] at rR
  clear hall f0 f1 f2 f3 f4 f5 f6
  replace hX := hX.keepI fk
  replace hY := hY.keepI fk
  replace hU := hU.keepI fk
  replace ltX := Nat.lt_of_lt_of_le ltX fs
  replace ltY := Nat.lt_of_lt_of_le ltY fs
  replace ltU := Nat.lt_of_lt_of_le ltU fs
  replace ltR := Nat.lt_of_lt_of_le ltR fs
  clear g0
  clear g1
  clear g2
  clear g3
  clear g4
  clear g5
  clear hbw0
  simp only [setM_some, setM_none, setM_nil]
  clear fk fs
  obtain ⟨cs, hcs, oR⟩ := rR
  obtain ⟨px, pa, pn, pc, qx, qa, qn, qc, hv, hq⟩ := g6
  rw [hv] at hcs
  injection hcs with hcs
  subst hcs
  obtain ⟨r0, r1, r2, r3⟩ := oR.four
  try simp only []
  try go_at_K
  repeat (first | go_values | go_skip | go_guarded | go_step | go_upon)
  refine bodyPost_ret (v := (.agg #[.bool px, .slice pa pn pc, .bool qx, .slice qa qn qc])) (by simp [results, Try.results98, go_sem, r0, r1, r2, r3]) rfl ?_
  rw [plus_is] at hq
  exact ⟨_, _, _, _, _, _, _, _, rfl, hq, hbw⟩

theorem rDiv_z (va vb : Value) (x y q : Int) (L : Nat) (w : World) (ha : RNum w va x L) (hb : RNum w vb y L) (hL : L ≤ 4000) (hy0 : y ≠ 0) (hq : x.fdiv y = q) :
    Calls Try.prog 70 #[va, vb] w fun e w' => ∃ s a n c s' a' n' c', e = .returned (.tuple #[.agg #[.bool s, .slice a n c], .agg #[.bool s', .slice a' n' c'], .int .i64 0]) ∧ RNum w' (.agg #[.bool s, .slice a n c]) q (2 * L + 30) ∧ RNum w' (.agg #[.bool s', .slice a' n' c']) (x.fmod y) (2 * L + 30) ∧ Below w.heap.size w w' := by
  subst hq
  exact rDiv_L va vb x y L w ha hb hL hy0
set_option maxRecDepth 20000 in
set_option maxHeartbeats 16000000 in
theorem rqadd_any (vX vY : Value) (x1 y1 : Rat) (w : World) (hX : QRV w vX x1 400) (hY : QRV w vY y1 400) :
    Calls Try.prog 75 #[vX, vY] w fun e w' => ∃ s1 s2 s3 s4 s5 s6 s7 s8, e = .returned (.tuple #[.agg #[.bool s1, .slice s2 s3 s4, .bool s5, .slice s6 s7 s8], .int .i64 (addC x1 y1)]) ∧ QRP w' s1 s2 s3 s4 s5 s6 s7 s8 (addZ x1 y1) (400) ∧ Below w.heap.size w w' := by
  obtain ⟨xX, aX, nX, cX, yX, eX, mX, fX, rfl, hX⟩ := hX
  obtain ⟨xY, aY, nY, cY, yY, eY, mY, fY, rfl, hY⟩ := hY
  have oX := (((Blk.new w 35 #[.bool xX, .slice aX nX cX, .bool yX, .slice eX mX fX]).alloc (.cells #[.bool xY, .slice aY nY cY, .bool yY, .slice eY mY fY] 35 (0, 0))).alloc (.cells #[.bool false, .slice none 0 0, .bool false, .slice none 0 0] 35 (0, 0)))
  have oY := ((Blk.new (w.alloc (.cells #[.bool xX, .slice aX nX cX, .bool yX, .slice eX mX fX] 35 (0, 0))) 35 #[.bool xY, .slice aY nY cY, .bool yY, .slice eY mY fY]).alloc (.cells #[.bool false, .slice none 0 0, .bool false, .slice none 0 0] 35 (0, 0)))
  have oR := (Blk.new ((w.alloc (.cells #[.bool xX, .slice aX nX cX, .bool yX, .slice eX mX fX] 35 (0, 0))).alloc (.cells #[.bool xY, .slice aY nY cY, .bool yY, .slice eY mY fY] 35 (0, 0))) 35 #[.bool false, .slice none 0 0, .bool false, .slice none 0 0])
  simp only [World.size_alloc] at oY oR
  have hbw : Below w.heap.size w (((w.alloc (.cells #[.bool xX, .slice aX nX cX, .bool yX, .slice eX mX fX] 35 (0, 0))).alloc (.cells #[.bool xY, .slice aY nY cY, .bool yY, .slice eY mY fY] 35 (0, 0))).alloc (.cells #[.bool false, .slice none 0 0, .bool false, .slice none 0 0] 35 (0, 0))) := by go_grown
  replace hX := hX.below hbw
  replace hY := hY.below hbw
  have ltX := oX.lt
  have ltY := oY.lt
  have ltR := oR.lt
  go_enter Try.func75, Try.ntmps75
  go_wp2
  generalize (((w.alloc (.cells #[.bool xX, .slice aX nX cX, .bool yX, .slice eX mX fX] 35 (0, 0))).alloc (.cells #[.bool xY, .slice aY nY cY, .bool yY, .slice eY mY fY] 35 (0, 0))).alloc (.cells #[.bool false, .slice none 0 0, .bool false, .slice none 0 0] 35 (0, 0))) = W0 at hbw oX oY oR ltX ltY ltR hX hY ⊢
  refine wp_region_M (by kernel_rfl) [6, 20, 21, 22, 23, 24] [none, none, none, none, none, none, some 6, none, none, none, none, none, none, none, none, none, none, none, none, none, some 20, some 21, some 22, some 23, some 24] (fun U => by kernel_rfl) (fun L U wr => Below w.heap.size w wr ∧ KeepI W0 wr ∧ W0.heap.size ≤ wr.heap.size ∧ Blk 35 wr (w.heap.size) #[.bool xX, .slice aX nX cX, .bool yX, .slice eX mX fX] ∧ Blk 35 wr (w.heap.size + 1) #[.bool xY, .slice aY nY cY, .bool yY, .slice eY mY fY] ∧ Blk 35 wr (w.heap.size + 1 + 1) #[.bool false, .slice none 0 0, .bool false, .slice none 0 0] ∧ (L 0 = true → IS (.agg #[.bool xX, .slice aX nX cX, .bool yX, .slice eX mX fX]) (U 20) wr) ∧ (L 1 = true → RNM (x1.den : Int) 400 (U 21) wr) ∧ (L 2 = true → IS (.agg #[.bool xY, .slice aY nY cY, .bool yY, .slice eY mY fY]) (U 22) wr) ∧ (L 3 = true → RNM (y1.den : Int) 400 (U 23) wr) ∧ (L 4 = true → RNM (aG x1 y1) 400 (U 24) wr) ∧ (L 5 = true → NEW 33 W0.heap.size wr (U 6) (bif L 6 then U 24 else .agg #[.bool false, .slice none 0 0])) ∧ (L 6 = true → L 4 = true) ∧ (L 6 = true → L 5 = true)) (by kernel_rfl) ?_ ?_ ?_
  · exact fun U => ⟨hbw.drew, KeepI.below (Below.refl _ _).drew, Nat.le_refl _, oX.drew, oY.drew, oR.drew, (fun h => by cases h), (fun h => by cases h), (fun h => by cases h), (fun h => by cases h), (fun h => by cases h), (fun h => by cases h), (fun h => by cases h), (fun h => by cases h)⟩
  · refine StepsU.run rfl ?_ ?_
    · intro L U wr hF hlk haf A K hA hK
      have HA : Hid (A = putAll _ _ U) := hA
      clear hA
      simp [Aft, Region.binds] at haf
      obtain ⟨fb, fk, fs, oX, oY, oR, f0, f1, f2, f3, f4, f5, s6, m5⟩ := hF
      have e2 : A.tmps[2]? = some (.pointer (some ⟨w.heap.size, 0, none⟩)) := by rw [HA.out]; kernel_rfl
      obtain ⟨c0, c1, c2, c3⟩ := oX.four
      refine ⟨?_⟩
      go_simp
      refine hK (upd U 20 (.agg #[.bool xX, .slice aX nX cX, .bool yX, .slice eX mX fX])) _ _ ?_ ?_
      · rw [HA.out]; kernel_rfl
      · exact ⟨fb, fk, fs, oX, oY, oR, (fun _ => rfl), f1, f2, f3, f4, f5, s6, m5⟩
    refine StepsU.run rfl ?_ ?_
    · intro L U wr hF hlk haf A K hA hK
      have HA : Hid (A = putAll _ _ U) := hA
      clear hA
      simp [Aft, Region.binds] at haf
      obtain ⟨fb, fk, fs, oX, oY, oR, f0, f1, f2, f3, f4, f5, s6, m5⟩ := hF
      have g0 := f0 (by simp [haf])
      have e20 := rd HA.out 20 (by kernel_rfl) g0
      refine ⟨?_⟩
      go_simp
      refine (low_any _ x1 400 _ (hX.val.keepI fk) (by decide)).mono ?_
      rintro e w1 ⟨u1, u2, u3, u4, rfl, hr, hb⟩
      go_simp
      refine hK (upd U 21 (.agg #[.bool u1, .slice u2 u3 u4])) _ _ ?_ ?_
      · rw [HA.out]; kernel_rfl
      · exact ⟨(fb.step hb (Nat.le_refl _)), (fk.trans (KeepI.below hb)), (Nat.le_trans fs hb.size), (oX.stay hb), (oY.stay hb), (oR.stay hb), (mv mo_is (KeepI.below hb) f0), (fun _ => hr), (mv mo_is (KeepI.below hb) f2), (mv mo_rnm (KeepI.below hb) f3), (mv mo_rnm (KeepI.below hb) f4), (fun h => (f5 h).below hb), s6, m5⟩
    refine StepsU.run rfl ?_ ?_
    · intro L U wr hF hlk haf A K hA hK
      have HA : Hid (A = putAll _ _ U) := hA
      clear hA
      simp [Aft, Region.binds] at haf
      obtain ⟨fb, fk, fs, oX, oY, oR, f0, f1, f2, f3, f4, f5, s6, m5⟩ := hF
      have e3 : A.tmps[3]? = some (.pointer (some ⟨w.heap.size + 1, 0, none⟩)) := by rw [HA.out]; kernel_rfl
      obtain ⟨c0, c1, c2, c3⟩ := oY.four
      refine ⟨?_⟩
      go_simp
      refine hK (upd U 22 (.agg #[.bool xY, .slice aY nY cY, .bool yY, .slice eY mY fY])) _ _ ?_ ?_
      · rw [HA.out]; kernel_rfl
      · exact ⟨fb, fk, fs, oX, oY, oR, f0, f1, (fun _ => rfl), f3, f4, f5, s6, m5⟩
    refine StepsU.run rfl ?_ ?_
    · intro L U wr hF hlk haf A K hA hK
      have HA : Hid (A = putAll _ _ U) := hA
      clear hA
      simp [Aft, Region.binds] at haf
      obtain ⟨fb, fk, fs, oX, oY, oR, f0, f1, f2, f3, f4, f5, s6, m5⟩ := hF
      have g2 := f2 (by simp [haf])
      have e22 := rd HA.out 22 (by kernel_rfl) g2
      refine ⟨?_⟩
      go_simp
      refine (low_any _ y1 400 _ (hY.val.keepI fk) (by decide)).mono ?_
      rintro e w1 ⟨u1, u2, u3, u4, rfl, hr, hb⟩
      go_simp
      refine hK (upd U 23 (.agg #[.bool u1, .slice u2 u3 u4])) _ _ ?_ ?_
      · rw [HA.out]; kernel_rfl
      · exact ⟨(fb.step hb (Nat.le_refl _)), (fk.trans (KeepI.below hb)), (Nat.le_trans fs hb.size), (oX.stay hb), (oY.stay hb), (oR.stay hb), (mv mo_is (KeepI.below hb) f0), (mv mo_rnm (KeepI.below hb) f1), (mv mo_is (KeepI.below hb) f2), (fun _ => hr), (mv mo_rnm (KeepI.below hb) f4), (fun h => (f5 h).below hb), s6, m5⟩
    refine StepsU.run rfl ?_ ?_
    · intro L U wr hF hlk haf A K hA hK
      have HA : Hid (A = putAll _ _ U) := hA
      clear hA
      simp [Aft, Region.binds] at haf
      obtain ⟨fb, fk, fs, oX, oY, oR, f0, f1, f2, f3, f4, f5, s6, m5⟩ := hF
      have g1 := f1 (by simp [haf])
      have e21 := rd HA.out 21 (by kernel_rfl) rfl
      have g3 := f3 (by simp [haf])
      have e23 := rd HA.out 23 (by kernel_rfl) rfl
      refine ⟨?_⟩
      go_simp
      refine (rGcd_L _ _ (x1.den : Int) (y1.den : Int) (aG x1 y1) 400 _ g1 g3 (by decide) (aG_def x1 y1)).mono ?_
      rintro e w1 ⟨u1, u2, u3, u4, rfl, hr, hb⟩
      go_simp
      have hs6 : L 6 = false := by cases h : L 6 with | false => rfl | true => rw [s6 h] at hlk; cases hlk
      refine hK (upd U 24 (.agg #[.bool u1, .slice u2 u3 u4])) _ _ ?_ ?_
      · rw [HA.out]; kernel_rfl
      · exact ⟨(fb.step hb (Nat.le_refl _)), (fk.trans (KeepI.below hb)), (Nat.le_trans fs hb.size), (oX.stay hb), (oY.stay hb), (oR.stay hb), (mv mo_is (KeepI.below hb) f0), (mv mo_rnm (KeepI.below hb) f1), (mv mo_is (KeepI.below hb) f2), (mv mo_rnm (KeepI.below hb) f3), (fun _ => hr), (fun h => flip_v (P := fun v => NEW _ _ _ _ v) hs6 ((fun h => (f5 h).below hb) h)), (fun _ => rfl), m5⟩
    refine StepsU.run rfl ?_ ?_
    · intro L U wr hF hlk haf A K hA hK
      have HA : Hid (A = putAll _ _ U) := hA
      clear hA
      simp [Aft, Region.binds] at haf
      obtain ⟨fb, fk, fs, oX, oY, oR, f0, f1, f2, f3, f4, f5, s6, m5⟩ := hF
      have hst : L 6 = false := by cases h : L 6 with | false => rfl | true => rw [m5 h] at hlk; cases hlk
      refine ⟨?_⟩
      go_simp
      have hb := below_new wr (.cells #[.bool false, .slice none 0 0] 33 (0, 0))
      refine hK (upd U 6 (.pointer (some ⟨wr.heap.size, 0, none⟩))) _ _ ?_ ?_
      · rw [HA.out]; kernel_rfl
      · exact ⟨(fb.step hb (Nat.le_refl _)), (fk.trans (KeepI.below hb)), (Nat.le_trans fs hb.size), (oX.stay hb), (oY.stay hb), (oR.stay hb), (mv mo_is (KeepI.below hb) f0), (mv mo_rnm (KeepI.below hb) f1), (mv mo_is (KeepI.below hb) f2), (mv mo_rnm (KeepI.below hb) f3), (mv mo_rnm (KeepI.below hb) f4), (fun _ => new_zero hst (NEW.mk fs (noI2 _ _ _ _))), s6, (fun _ => rfl)⟩
    refine StepsU.run rfl ?_ StepsU.nil
    · intro L U wr hF hlk haf A K hA hK
      have HA : Hid (A = putAll _ _ U) := hA
      clear hA
      simp [Aft, Region.binds] at haf
      obtain ⟨fb, fk, fs, oX, oY, oR, f0, f1, f2, f3, f4, f5, s6, m5⟩ := hF
      have g4 := f4 (by simp [haf])
      obtain ⟨px, pa, pn, pc, hsrc⟩ := RNum.shape g4
      have e24 := rd HA.out 24 (by kernel_rfl) hsrc
      have gA := f5 (by simp [haf])
      simp only [hlk, cond_false] at gA
      obtain ⟨b, cs, hp, hBb, hcs, hblk, -⟩ := gA
      injection hcs with hcs
      subst hcs
      have e6 := rd HA.out 6 (by kernel_rfl) hp
      obtain ⟨c0, c1, q0, q1⟩ := hblk.two
      refine ⟨?_⟩
      go_simp
      have hk := keepI_two hblk px pa pn pc
      refine hK U _ _ ?_ ?_
      · exact HA.out
      · exact ⟨(below_store2 fb (Nat.le_trans hbw.size hBb) _ _), (fk.trans hk), (by simpa using fs), (oX.other2 (Nat.ne_of_gt (Nat.lt_of_lt_of_le ltX hBb)) _ _), (oY.other2 (Nat.ne_of_gt (Nat.lt_of_lt_of_le ltY hBb)) _ _), (oR.other2 (Nat.ne_of_gt (Nat.lt_of_lt_of_le ltR hBb)) _ _), (mv mo_is hk f0), (mv mo_rnm hk f1), (mv mo_is hk f2), (mv mo_rnm hk f3), (mv mo_rnm hk f4), (fun _ => stored_new hp hsrc (NEW.over2 hBb hblk px pa pn pc)), (fun _ => by simp [haf]), (fun _ => by simp [haf])⟩
  intro L U1 V1 hall hF
  have hbw0 := hbw
  clear hbw
  obtain ⟨hbw, fk, fs, oX, oY, oR, f0, f1, f2, f3, f4, f5, s6, m5⟩ := hF
  clear s6 m5
  have g0 := f0 (hall 0 (by decide))
  have g1 := f1 (hall 1 (by decide))
  have g2 := f2 (hall 2 (by decide))
  have g3 := f3 (hall 3 (by decide))
  have g4 := f4 (hall 4 (by decide))
  have g5 := f5 (hall 5 (by decide))
  rw [hall 6 (by decide), cond_true] at g5
  clear hall f0 f1 f2 f3 f4 f5
  replace hX := hX.keepI fk
  replace hY := hY.keepI fk
  obtain ⟨bI, csI, hpI, lbI, hcsI, oI, -⟩ := g5
  obtain ⟨xI, aI, nI, cI, hvI⟩ := RNum.shape g4
  have hI : RNum _ _ _ _ := g4
  rw [hvI] at hI
  rw [hvI] at hcsI
  injection hcsI with hcsI
  subst hcsI
  have ltI := oI.lt
  have neXI : w.heap.size ≠ bI := Nat.ne_of_lt (Nat.lt_of_lt_of_le ltX lbI)
  have neYI : w.heap.size + 1 ≠ bI := Nat.ne_of_lt (Nat.lt_of_lt_of_le ltY lbI)
  have neRI : w.heap.size + 1 + 1 ≠ bI := Nat.ne_of_lt (Nat.lt_of_lt_of_le ltR lbI)
  have lwI : w.heap.size ≤ bI := Nat.le_trans hbw0.size lbI
  clear lbI
  replace ltX := Nat.lt_of_lt_of_le ltX fs
  replace ltY := Nat.lt_of_lt_of_le ltY fs
  replace ltR := Nat.lt_of_lt_of_le ltR fs
  clear g0
  clear g1
  clear g2
  clear g3
  clear g4
  clear hbw0
  simp only [setM_some, setM_none, setM_nil]
  rw [hpI]
  clear hpI hvI
  clear fk fs
  have HG : Hid (aG x1 y1 ≠ 0) := Int.ne_of_gt (aG_pos x1 y1)
  have HH : Hid (aH x1 y1 ≠ 0) := Int.ne_of_gt (aH_pos x1 y1)
  go_wp2
  refine wp_region_M (by kernel_rfl) [7, 8, 9, 25, 26, 27, 28, 29, 30, 31, 32] [none, none, none, none, none, none, none, some 7, some 8, some 9, none, none, none, none, none, none, none, none, none, none, none, none, none, none, none, some 25, some 26, some 27, some 28, some 29, some 30, some 31, some 32] (fun U => by kernel_rfl) (fun L U wr => Below w.heap.size w wr ∧ KeepI V1 wr ∧ V1.heap.size ≤ wr.heap.size ∧ Blk 35 wr (w.heap.size) #[.bool xX, .slice aX nX cX, .bool yX, .slice eX mX fX] ∧ Blk 35 wr (w.heap.size + 1) #[.bool xY, .slice aY nY cY, .bool yY, .slice eY mY fY] ∧ Blk 35 wr (w.heap.size + 1 + 1) #[.bool false, .slice none 0 0, .bool false, .slice none 0 0] ∧ Blk 33 wr (bI) #[.bool xI, .slice aI nI cI] ∧ (L 0 = true → IS (.agg #[.bool xY, .slice aY nY cY, .bool yY, .slice eY mY fY]) (U 26) wr) ∧ (L 1 = true → RNM (y1.den : Int) 400 (U 27) wr) ∧ (L 2 = true → IS (.agg #[.bool xI, .slice aI nI cI]) (U 28) wr) ∧ (L 3 = true → T3 (RNM (aD x1 y1) 830) (RNM ((y1.den : Int).fmod (aG x1 y1)) 830) (IS (.int .i64 0)) (U 29) wr) ∧ (L 4 = true → T3 (RNM (aD x1 y1) 830) (RNM ((y1.den : Int).fmod (aG x1 y1)) 830) (IS (.int .i64 0)) (U 25) wr) ∧ (L 5 = true → RNM (aD x1 y1) 830 (U 30) wr) ∧ (L 6 = true → RNM ((y1.den : Int).fmod (aG x1 y1)) 830 (U 31) wr) ∧ (L 7 = true → IS (.int .i64 0) (U 32) wr) ∧ (L 8 = true → NEW 33 V1.heap.size wr (U 7) (bif L 10 then U 30 else .agg #[.bool false, .slice none 0 0])) ∧ (L 9 = true → NEW 33 V1.heap.size wr (U 8) (bif L 11 then U 31 else .agg #[.bool false, .slice none 0 0])) ∧ (L 12 = true → IS (.int .i64 0) (U 9) wr) ∧ (L 10 = true → L 5 = true) ∧ (L 11 = true → L 6 = true) ∧ (L 10 = true → L 8 = true) ∧ (L 11 = true → L 9 = true) ∧ (L 8 = true → L 9 = true → U 7 ≠ U 8)) (by kernel_rfl) ?_ ?_ ?_
  · exact fun U => ⟨hbw.drew, KeepI.below (Below.refl _ _).drew, Nat.le_refl _, oX.drew, oY.drew, oR.drew, oI.drew, (fun h => by cases h), (fun h => by cases h), (fun h => by cases h), (fun h => by cases h), (fun h => by cases h), (fun h => by cases h), (fun h => by cases h), (fun h => by cases h), (fun h => by cases h), (fun h => by cases h), (fun h => by cases h), (fun h => by cases h), (fun h => by cases h), (fun h => by cases h), (fun h => by cases h), (fun h => by cases h)⟩
  · refine StepsU.run rfl ?_ ?_
    · intro L U wr hF hlk haf A K hA hK
      have HA : Hid (A = putAll _ _ U) := hA
      clear hA
      simp [Aft, Region.binds] at haf
      obtain ⟨fb, fk, fs, oX, oY, oR, oI, f0, f1, f2, f3, f4, f5, f6, f7, f8, f9, f12, s10, s11, m8, m9, d8_9⟩ := hF
      have e3 : A.tmps[3]? = some (.pointer (some ⟨w.heap.size + 1, 0, none⟩)) := by rw [HA.out]; kernel_rfl
      obtain ⟨c0, c1, c2, c3⟩ := oY.four
      refine ⟨?_⟩
      go_simp
      refine hK (upd U 26 (.agg #[.bool xY, .slice aY nY cY, .bool yY, .slice eY mY fY])) _ _ ?_ ?_
      · rw [HA.out]; kernel_rfl
      · exact ⟨fb, fk, fs, oX, oY, oR, oI, (fun _ => rfl), f1, f2, f3, f4, f5, f6, f7, f8, f9, f12, s10, s11, m8, m9, d8_9⟩
    refine StepsU.run rfl ?_ ?_
    · intro L U wr hF hlk haf A K hA hK
      have HA : Hid (A = putAll _ _ U) := hA
      clear hA
      simp [Aft, Region.binds] at haf
      obtain ⟨fb, fk, fs, oX, oY, oR, oI, f0, f1, f2, f3, f4, f5, f6, f7, f8, f9, f12, s10, s11, m8, m9, d8_9⟩ := hF
      have g0 := f0 (by simp [haf])
      have e26 := rd HA.out 26 (by kernel_rfl) g0
      refine ⟨?_⟩
      go_simp
      refine (low_any _ y1 400 _ (hY.val.keepI fk) (by decide)).mono ?_
      rintro e w1 ⟨u1, u2, u3, u4, rfl, hr, hb⟩
      go_simp
      refine hK (upd U 27 (.agg #[.bool u1, .slice u2 u3 u4])) _ _ ?_ ?_
      · rw [HA.out]; kernel_rfl
      · exact ⟨(fb.step hb (Nat.le_refl _)), (fk.trans (KeepI.below hb)), (Nat.le_trans fs hb.size), (oX.stay hb), (oY.stay hb), (oR.stay hb), (oI.stay hb), (mv mo_is (KeepI.below hb) f0), (fun _ => hr), (mv mo_is (KeepI.below hb) f2), (mv (mo_t3 mo_rnm mo_rnm mo_is) (KeepI.below hb) f3), (mv (mo_t3 mo_rnm mo_rnm mo_is) (KeepI.below hb) f4), (mv mo_rnm (KeepI.below hb) f5), (mv mo_rnm (KeepI.below hb) f6), (mv mo_is (KeepI.below hb) f7), (fun h => (f8 h).below hb), (fun h => (f9 h).below hb), (mv mo_is (KeepI.below hb) f12), s10, s11, m8, m9, d8_9⟩
    refine StepsU.run rfl ?_ ?_
    · intro L U wr hF hlk haf A K hA hK
      have HA : Hid (A = putAll _ _ U) := hA
      clear hA
      simp [Aft, Region.binds] at haf
      obtain ⟨fb, fk, fs, oX, oY, oR, oI, f0, f1, f2, f3, f4, f5, f6, f7, f8, f9, f12, s10, s11, m8, m9, d8_9⟩ := hF
      have e6 : A.tmps[6]? = some (.pointer (some ⟨bI, 0, none⟩)) := by rw [HA.out]; kernel_rfl
      obtain ⟨c0, c1, -, -⟩ := oI.two
      refine ⟨?_⟩
      go_simp
      refine hK (upd U 28 (.agg #[.bool xI, .slice aI nI cI])) _ _ ?_ ?_
      · rw [HA.out]; kernel_rfl
      · exact ⟨fb, fk, fs, oX, oY, oR, oI, f0, f1, (fun _ => rfl), f3, f4, f5, f6, f7, f8, f9, f12, s10, s11, m8, m9, d8_9⟩
    refine StepsU.run rfl ?_ ?_
    · intro L U wr hF hlk haf A K hA hK
      have HA : Hid (A = putAll _ _ U) := hA
      clear hA
      simp [Aft, Region.binds] at haf
      obtain ⟨fb, fk, fs, oX, oY, oR, oI, f0, f1, f2, f3, f4, f5, f6, f7, f8, f9, f12, s10, s11, m8, m9, d8_9⟩ := hF
      have g1 := f1 (by simp [haf])
      have e27 := rd HA.out 27 (by kernel_rfl) rfl
      have g2 := f2 (by simp [haf])
      have e28 := rd HA.out 28 (by kernel_rfl) g2
      refine ⟨?_⟩
      go_simp
      refine (rDiv_z _ _ (y1.den : Int) (aG x1 y1) (aD x1 y1) 400 _ (RNum.mono g1 (by decide)) (hI.keepI fk) (by decide) HG.out (aD_def x1 y1)).mono ?_
      rintro e w1 ⟨u1, u2, u3, u4, u5, u6, u7, u8, rfl, hr, hr2, hb⟩
      go_simp
      refine hK (upd U 29 (.tuple #[.agg #[.bool u1, .slice u2 u3 u4], .agg #[.bool u5, .slice u6 u7 u8], .int .i64 0])) _ _ ?_ ?_
      · rw [HA.out]; kernel_rfl
      · exact ⟨(fb.step hb (Nat.le_refl _)), (fk.trans (KeepI.below hb)), (Nat.le_trans fs hb.size), (oX.stay hb), (oY.stay hb), (oR.stay hb), (oI.stay hb), (mv mo_is (KeepI.below hb) f0), (mv mo_rnm (KeepI.below hb) f1), (mv mo_is (KeepI.below hb) f2), (fun _ => ⟨_, _, _, rfl, hr, hr2, rfl⟩), (mv (mo_t3 mo_rnm mo_rnm mo_is) (KeepI.below hb) f4), (mv mo_rnm (KeepI.below hb) f5), (mv mo_rnm (KeepI.below hb) f6), (mv mo_is (KeepI.below hb) f7), (fun h => (f8 h).below hb), (fun h => (f9 h).below hb), (mv mo_is (KeepI.below hb) f12), s10, s11, m8, m9, d8_9⟩
    refine StepsU.run rfl ?_ ?_
    · intro L U wr hF hlk haf A K hA hK
      have HA : Hid (A = putAll _ _ U) := hA
      clear hA
      simp [Aft, Region.binds] at haf
      obtain ⟨fb, fk, fs, oX, oY, oR, oI, f0, f1, f2, f3, f4, f5, f6, f7, f8, f9, f12, s10, s11, m8, m9, d8_9⟩ := hF
      have g3 := f3 (by simp [haf])
      have e29 := rd HA.out 29 (by kernel_rfl) rfl
      refine ⟨?_⟩
      go_simp
      refine hK (upd U 25 (U 29)) _ _ ?_ ?_
      · rw [HA.out]; kernel_rfl
      · exact ⟨fb, fk, fs, oX, oY, oR, oI, f0, f1, f2, f3, (fun _ => g3), f5, f6, f7, f8, f9, f12, s10, s11, m8, m9, d8_9⟩
    refine StepsU.run rfl ?_ ?_
    · intro L U wr hF hlk haf A K hA hK
      have HA : Hid (A = putAll _ _ U) := hA
      clear hA
      simp [Aft, Region.binds] at haf
      obtain ⟨fb, fk, fs, oX, oY, oR, oI, f0, f1, f2, f3, f4, f5, f6, f7, f8, f9, f12, s10, s11, m8, m9, d8_9⟩ := hF
      have g4 := f4 (by simp [haf])
      obtain ⟨t0, t1, t2, hT, k0, k1, k2⟩ := g4
      have e25 := rd HA.out 25 (by kernel_rfl) hT
      refine ⟨?_⟩
      go_simp
      have hs10 : L 10 = false := by cases h : L 10 with | false => rfl | true => rw [s10 h] at hlk; cases hlk
      refine hK (upd U 30 t0) _ _ ?_ ?_
      · rw [HA.out]; kernel_rfl
      · exact ⟨fb, fk, fs, oX, oY, oR, oI, f0, f1, f2, f3, f4, (fun _ => k0), f6, f7, (fun h => flip_v (P := fun v => NEW _ _ _ _ v) hs10 (f8 h)), f9, f12, (fun _ => rfl), s11, m8, m9, d8_9⟩
    refine StepsU.run rfl ?_ ?_
    · intro L U wr hF hlk haf A K hA hK
      have HA : Hid (A = putAll _ _ U) := hA
      clear hA
      simp [Aft, Region.binds] at haf
      obtain ⟨fb, fk, fs, oX, oY, oR, oI, f0, f1, f2, f3, f4, f5, f6, f7, f8, f9, f12, s10, s11, m8, m9, d8_9⟩ := hF
      have g4 := f4 (by simp [haf])
      obtain ⟨t0, t1, t2, hT, k0, k1, k2⟩ := g4
      have e25 := rd HA.out 25 (by kernel_rfl) hT
      refine ⟨?_⟩
      go_simp
      have hs11 : L 11 = false := by cases h : L 11 with | false => rfl | true => rw [s11 h] at hlk; cases hlk
      refine hK (upd U 31 t1) _ _ ?_ ?_
      · rw [HA.out]; kernel_rfl
      · exact ⟨fb, fk, fs, oX, oY, oR, oI, f0, f1, f2, f3, f4, f5, (fun _ => k1), f7, f8, (fun h => flip_v (P := fun v => NEW _ _ _ _ v) hs11 (f9 h)), f12, s10, (fun _ => rfl), m8, m9, d8_9⟩
    refine StepsU.run rfl ?_ ?_
    · intro L U wr hF hlk haf A K hA hK
      have HA : Hid (A = putAll _ _ U) := hA
      clear hA
      simp [Aft, Region.binds] at haf
      obtain ⟨fb, fk, fs, oX, oY, oR, oI, f0, f1, f2, f3, f4, f5, f6, f7, f8, f9, f12, s10, s11, m8, m9, d8_9⟩ := hF
      have g4 := f4 (by simp [haf])
      obtain ⟨t0, t1, t2, hT, k0, k1, k2⟩ := g4
      have e25 := rd HA.out 25 (by kernel_rfl) hT
      refine ⟨?_⟩
      go_simp
      refine hK (upd U 32 t2) _ _ ?_ ?_
      · rw [HA.out]; kernel_rfl
      · exact ⟨fb, fk, fs, oX, oY, oR, oI, f0, f1, f2, f3, f4, f5, f6, (fun _ => k2), f8, f9, f12, s10, s11, m8, m9, d8_9⟩
    refine StepsU.run rfl ?_ ?_
    · intro L U wr hF hlk haf A K hA hK
      have HA : Hid (A = putAll _ _ U) := hA
      clear hA
      simp [Aft, Region.binds] at haf
      obtain ⟨fb, fk, fs, oX, oY, oR, oI, f0, f1, f2, f3, f4, f5, f6, f7, f8, f9, f12, s10, s11, m8, m9, d8_9⟩ := hF
      have hst : L 10 = false := by cases h : L 10 with | false => rfl | true => rw [m8 h] at hlk; cases hlk
      refine ⟨?_⟩
      go_simp
      have hb := below_new wr (.cells #[.bool false, .slice none 0 0] 33 (0, 0))
      refine hK (upd U 7 (.pointer (some ⟨wr.heap.size, 0, none⟩))) _ _ ?_ ?_
      · rw [HA.out]; kernel_rfl
      · exact ⟨(fb.step hb (Nat.le_refl _)), (fk.trans (KeepI.below hb)), (Nat.le_trans fs hb.size), (oX.stay hb), (oY.stay hb), (oR.stay hb), (oI.stay hb), (mv mo_is (KeepI.below hb) f0), (mv mo_rnm (KeepI.below hb) f1), (mv mo_is (KeepI.below hb) f2), (mv (mo_t3 mo_rnm mo_rnm mo_is) (KeepI.below hb) f3), (mv (mo_t3 mo_rnm mo_rnm mo_is) (KeepI.below hb) f4), (mv mo_rnm (KeepI.below hb) f5), (mv mo_rnm (KeepI.below hb) f6), (mv mo_is (KeepI.below hb) f7), (fun _ => new_zero hst (NEW.mk fs (noI2 _ _ _ _))), (fun h => (f9 h).below hb), (mv mo_is (KeepI.below hb) f12), s10, s11, (fun _ => rfl), m9, (fun _ h => (f9 h).apart.symm)⟩
    refine StepsU.run rfl ?_ ?_
    · intro L U wr hF hlk haf A K hA hK
      have HA : Hid (A = putAll _ _ U) := hA
      clear hA
      simp [Aft, Region.binds] at haf
      obtain ⟨fb, fk, fs, oX, oY, oR, oI, f0, f1, f2, f3, f4, f5, f6, f7, f8, f9, f12, s10, s11, m8, m9, d8_9⟩ := hF
      have hst : L 11 = false := by cases h : L 11 with | false => rfl | true => rw [m9 h] at hlk; cases hlk
      refine ⟨?_⟩
      go_simp
      have hb := below_new wr (.cells #[.bool false, .slice none 0 0] 33 (0, 0))
      refine hK (upd U 8 (.pointer (some ⟨wr.heap.size, 0, none⟩))) _ _ ?_ ?_
      · rw [HA.out]; kernel_rfl
      · exact ⟨(fb.step hb (Nat.le_refl _)), (fk.trans (KeepI.below hb)), (Nat.le_trans fs hb.size), (oX.stay hb), (oY.stay hb), (oR.stay hb), (oI.stay hb), (mv mo_is (KeepI.below hb) f0), (mv mo_rnm (KeepI.below hb) f1), (mv mo_is (KeepI.below hb) f2), (mv (mo_t3 mo_rnm mo_rnm mo_is) (KeepI.below hb) f3), (mv (mo_t3 mo_rnm mo_rnm mo_is) (KeepI.below hb) f4), (mv mo_rnm (KeepI.below hb) f5), (mv mo_rnm (KeepI.below hb) f6), (mv mo_is (KeepI.below hb) f7), (fun h => (f8 h).below hb), (fun _ => new_zero hst (NEW.mk fs (noI2 _ _ _ _))), (mv mo_is (KeepI.below hb) f12), s10, s11, m8, (fun _ => rfl), (fun h _ => (f8 h).apart)⟩
    refine StepsU.run rfl ?_ ?_
    · intro L U wr hF hlk haf A K hA hK
      have HA : Hid (A = putAll _ _ U) := hA
      clear hA
      simp [Aft, Region.binds] at haf
      obtain ⟨fb, fk, fs, oX, oY, oR, oI, f0, f1, f2, f3, f4, f5, f6, f7, f8, f9, f12, s10, s11, m8, m9, d8_9⟩ := hF
      have g5 := f5 (by simp [haf])
      obtain ⟨px, pa, pn, pc, hsrc⟩ := RNum.shape g5
      have e30 := rd HA.out 30 (by kernel_rfl) hsrc
      have gA := f8 (by simp [haf])
      simp only [hlk, cond_false] at gA
      obtain ⟨b, cs, hp, hBb, hcs, hblk, -⟩ := gA
      injection hcs with hcs
      subst hcs
      have e7 := rd HA.out 7 (by kernel_rfl) hp
      obtain ⟨c0, c1, q0, q1⟩ := hblk.two
      refine ⟨?_⟩
      go_simp
      have hk := keepI_two hblk px pa pn pc
      refine hK U _ _ ?_ ?_
      · exact HA.out
      · exact ⟨(below_store2 fb (Nat.le_trans hbw.size hBb) _ _), (fk.trans hk), (by simpa using fs), (oX.other2 (Nat.ne_of_gt (Nat.lt_of_lt_of_le ltX hBb)) _ _), (oY.other2 (Nat.ne_of_gt (Nat.lt_of_lt_of_le ltY hBb)) _ _), (oR.other2 (Nat.ne_of_gt (Nat.lt_of_lt_of_le ltR hBb)) _ _), (oI.other2 (Nat.ne_of_gt (Nat.lt_of_lt_of_le ltI hBb)) _ _), (mv mo_is hk f0), (mv mo_rnm hk f1), (mv mo_is hk f2), (mv (mo_t3 mo_rnm mo_rnm mo_is) hk f3), (mv (mo_t3 mo_rnm mo_rnm mo_is) hk f4), (mv mo_rnm hk f5), (mv mo_rnm hk f6), (mv mo_is hk f7), (fun _ => stored_new hp hsrc (NEW.over2 hBb hblk px pa pn pc)), (fun h => (f9 h).other2 (fun ee => ((d8_9 (by simp [haf]) h).symm) (ee.trans hp.symm)) _ _), (mv mo_is hk f12), (fun _ => by simp [haf]), s11, (fun _ => by simp [haf]), m9, d8_9⟩
    refine StepsU.run rfl ?_ ?_
    · intro L U wr hF hlk haf A K hA hK
      have HA : Hid (A = putAll _ _ U) := hA
      clear hA
      simp [Aft, Region.binds] at haf
      obtain ⟨fb, fk, fs, oX, oY, oR, oI, f0, f1, f2, f3, f4, f5, f6, f7, f8, f9, f12, s10, s11, m8, m9, d8_9⟩ := hF
      have g6 := f6 (by simp [haf])
      obtain ⟨px, pa, pn, pc, hsrc⟩ := RNum.shape g6
      have e31 := rd HA.out 31 (by kernel_rfl) hsrc
      have gA := f9 (by simp [haf])
      simp only [hlk, cond_false] at gA
      obtain ⟨b, cs, hp, hBb, hcs, hblk, -⟩ := gA
      injection hcs with hcs
      subst hcs
      have e8 := rd HA.out 8 (by kernel_rfl) hp
      obtain ⟨c0, c1, q0, q1⟩ := hblk.two
      refine ⟨?_⟩
      go_simp
      have hk := keepI_two hblk px pa pn pc
      refine hK U _ _ ?_ ?_
      · exact HA.out
      · exact ⟨(below_store2 fb (Nat.le_trans hbw.size hBb) _ _), (fk.trans hk), (by simpa using fs), (oX.other2 (Nat.ne_of_gt (Nat.lt_of_lt_of_le ltX hBb)) _ _), (oY.other2 (Nat.ne_of_gt (Nat.lt_of_lt_of_le ltY hBb)) _ _), (oR.other2 (Nat.ne_of_gt (Nat.lt_of_lt_of_le ltR hBb)) _ _), (oI.other2 (Nat.ne_of_gt (Nat.lt_of_lt_of_le ltI hBb)) _ _), (mv mo_is hk f0), (mv mo_rnm hk f1), (mv mo_is hk f2), (mv (mo_t3 mo_rnm mo_rnm mo_is) hk f3), (mv (mo_t3 mo_rnm mo_rnm mo_is) hk f4), (mv mo_rnm hk f5), (mv mo_rnm hk f6), (mv mo_is hk f7), (fun h => (f8 h).other2 (fun ee => (d8_9 h (by simp [haf])) (ee.trans hp.symm)) _ _), (fun _ => stored_new hp hsrc (NEW.over2 hBb hblk px pa pn pc)), (mv mo_is hk f12), s10, (fun _ => by simp [haf]), m8, (fun _ => by simp [haf]), d8_9⟩
    refine StepsU.run rfl ?_ StepsU.nil
    · intro L U wr hF hlk haf A K hA hK
      have HA : Hid (A = putAll _ _ U) := hA
      clear hA
      simp [Aft, Region.binds] at haf
      obtain ⟨fb, fk, fs, oX, oY, oR, oI, f0, f1, f2, f3, f4, f5, f6, f7, f8, f9, f12, s10, s11, m8, m9, d8_9⟩ := hF
      have g7 := f7 (by simp [haf])
      have e32 := rd HA.out 32 (by kernel_rfl) rfl
      refine ⟨?_⟩
      go_simp
      refine hK (upd U 9 (U 32)) _ _ ?_ ?_
      · rw [HA.out]; kernel_rfl
      · exact ⟨fb, fk, fs, oX, oY, oR, oI, f0, f1, f2, f3, f4, f5, f6, f7, f8, f9, (fun _ => g7), s10, s11, m8, m9, d8_9⟩
  intro L U2 V2 hall hF
  have hbw0 := hbw
  clear hbw
  obtain ⟨hbw, fk, fs, oX, oY, oR, oI, f0, f1, f2, f3, f4, f5, f6, f7, f8, f9, f12, s10, s11, m8, m9, d8_9⟩ := hF
  clear s10 s11 m8 m9
  have g0 := f0 (hall 0 (by decide))
  have g1 := f1 (hall 1 (by decide))
  have g2 := f2 (hall 2 (by decide))
  have g3 := f3 (hall 3 (by decide))
  have g4 := f4 (hall 4 (by decide))
  have g5 := f5 (hall 5 (by decide))
  have g6 := f6 (hall 6 (by decide))
  have g7 := f7 (hall 7 (by decide))
  have g8 := f8 (hall 8 (by decide))
  rw [hall 10 (by decide), cond_true] at g8
  have g9 := f9 (hall 9 (by decide))
  rw [hall 11 (by decide), cond_true] at g9
  have g12 := f12 (hall 12 (by decide))
  replace d8_9 := d8_9 (hall 8 (by decide)) (hall 9 (by decide))
  clear hall f0 f1 f2 f3 f4 f5 f6 f7 f8 f9 f12
  replace hX := hX.keepI fk
  replace hY := hY.keepI fk
  replace hI := hI.keepI fk
  obtain ⟨bJ, csJ, hpJ, lbJ, hcsJ, oJ, -⟩ := g8
  obtain ⟨xJ, aJ, nJ, cJ, hvJ⟩ := RNum.shape g5
  have hJ : RNum _ _ _ _ := g5
  rw [hvJ] at hJ
  rw [hvJ] at hcsJ
  injection hcsJ with hcsJ
  subst hcsJ
  have ltJ := oJ.lt
  obtain ⟨bJj, csJj, hpJj, lbJj, hcsJj, oJj, -⟩ := g9
  obtain ⟨xJj, aJj, nJj, cJj, hvJj⟩ := RNum.shape g6
  have hJj : RNum _ _ _ _ := g6
  rw [hvJj] at hJj
  rw [hvJj] at hcsJj
  injection hcsJj with hcsJj
  subst hcsJj
  have ltJj := oJj.lt
  have neJJj : bJ ≠ bJj := fun h => d8_9 (by rw [hpJ, hpJj, h])
  clear d8_9
  have neXJ : w.heap.size ≠ bJ := Nat.ne_of_lt (Nat.lt_of_lt_of_le ltX lbJ)
  have neYJ : w.heap.size + 1 ≠ bJ := Nat.ne_of_lt (Nat.lt_of_lt_of_le ltY lbJ)
  have neRJ : w.heap.size + 1 + 1 ≠ bJ := Nat.ne_of_lt (Nat.lt_of_lt_of_le ltR lbJ)
  have neIJ : bI ≠ bJ := Nat.ne_of_lt (Nat.lt_of_lt_of_le ltI lbJ)
  have lwJ : w.heap.size ≤ bJ := Nat.le_trans hbw0.size lbJ
  have neXJj : w.heap.size ≠ bJj := Nat.ne_of_lt (Nat.lt_of_lt_of_le ltX lbJj)
  have neYJj : w.heap.size + 1 ≠ bJj := Nat.ne_of_lt (Nat.lt_of_lt_of_le ltY lbJj)
  have neRJj : w.heap.size + 1 + 1 ≠ bJj := Nat.ne_of_lt (Nat.lt_of_lt_of_le ltR lbJj)
  have neIJj : bI ≠ bJj := Nat.ne_of_lt (Nat.lt_of_lt_of_le ltI lbJj)
  have lwJj : w.heap.size ≤ bJj := Nat.le_trans hbw0.size lbJj
  clear lbJ lbJj
  replace ltX := Nat.lt_of_lt_of_le ltX fs
  replace ltY := Nat.lt_of_lt_of_le ltY fs
  replace ltR := Nat.lt_of_lt_of_le ltR fs
  replace ltI := Nat.lt_of_lt_of_le ltI fs
  clear g0
  clear g1
  clear g2
  clear g3
  clear g4
  clear g5
  clear g6
  clear g7
  clear g12
  clear hbw0
  simp only [setM_some, setM_none, setM_nil]
  rw [hpJ, hpJj]
  clear hpJ hpJj hvJ hvJj
  clear fk fs
  clear ltJj oJj
  clear hJj
  go_wp2
  refine wp_region_M (by kernel_rfl) [10, 11, 12, 33, 34, 35, 36, 37, 38, 39, 40] [none, none, none, none, none, none, none, none, none, none, some 10, some 11, some 12, none, none, none, none, none, none, none, none, none, none, none, none, none, none, none, none, none, none, none, none, some 33, some 34, some 35, some 36, some 37, some 38, some 39, some 40] (fun U => by kernel_rfl) (fun L U wr => Below w.heap.size w wr ∧ KeepI V2 wr ∧ V2.heap.size ≤ wr.heap.size ∧ Blk 35 wr (w.heap.size) #[.bool xX, .slice aX nX cX, .bool yX, .slice eX mX fX] ∧ Blk 35 wr (w.heap.size + 1) #[.bool xY, .slice aY nY cY, .bool yY, .slice eY mY fY] ∧ Blk 35 wr (w.heap.size + 1 + 1) #[.bool false, .slice none 0 0, .bool false, .slice none 0 0] ∧ Blk 33 wr (bI) #[.bool xI, .slice aI nI cI] ∧ Blk 33 wr (bJ) #[.bool xJ, .slice aJ nJ cJ] ∧ (L 0 = true → IS (.agg #[.bool xX, .slice aX nX cX, .bool yX, .slice eX mX fX]) (U 34) wr) ∧ (L 1 = true → RNM (x1.den : Int) 400 (U 35) wr) ∧ (L 2 = true → IS (.agg #[.bool xI, .slice aI nI cI]) (U 36) wr) ∧ (L 3 = true → T3 (RNM (aB x1 y1) 830) (RNM ((x1.den : Int).fmod (aG x1 y1)) 830) (IS (.int .i64 0)) (U 37) wr) ∧ (L 4 = true → T3 (RNM (aB x1 y1) 830) (RNM ((x1.den : Int).fmod (aG x1 y1)) 830) (IS (.int .i64 0)) (U 33) wr) ∧ (L 5 = true → RNM (aB x1 y1) 830 (U 38) wr) ∧ (L 6 = true → RNM ((x1.den : Int).fmod (aG x1 y1)) 830 (U 39) wr) ∧ (L 7 = true → IS (.int .i64 0) (U 40) wr) ∧ (L 8 = true → NEW 33 V2.heap.size wr (U 10) (bif L 10 then U 38 else .agg #[.bool false, .slice none 0 0])) ∧ (L 9 = true → NEW 33 V2.heap.size wr (U 11) (bif L 11 then U 39 else .agg #[.bool false, .slice none 0 0])) ∧ (L 12 = true → IS (.int .i64 0) (U 12) wr) ∧ (L 10 = true → L 5 = true) ∧ (L 11 = true → L 6 = true) ∧ (L 10 = true → L 8 = true) ∧ (L 11 = true → L 9 = true) ∧ (L 8 = true → L 9 = true → U 10 ≠ U 11)) (by kernel_rfl) ?_ ?_ ?_
  · exact fun U => ⟨hbw.drew, KeepI.below (Below.refl _ _).drew, Nat.le_refl _, oX.drew, oY.drew, oR.drew, oI.drew, oJ.drew, (fun h => by cases h), (fun h => by cases h), (fun h => by cases h), (fun h => by cases h), (fun h => by cases h), (fun h => by cases h), (fun h => by cases h), (fun h => by cases h), (fun h => by cases h), (fun h => by cases h), (fun h => by cases h), (fun h => by cases h), (fun h => by cases h), (fun h => by cases h), (fun h => by cases h), (fun h => by cases h)⟩
  · refine StepsU.run rfl ?_ ?_
    · intro L U wr hF hlk haf A K hA hK
      have HA : Hid (A = putAll _ _ U) := hA
      clear hA
      simp [Aft, Region.binds] at haf
      obtain ⟨fb, fk, fs, oX, oY, oR, oI, oJ, f0, f1, f2, f3, f4, f5, f6, f7, f8, f9, f12, s10, s11, m8, m9, d8_9⟩ := hF
      have e2 : A.tmps[2]? = some (.pointer (some ⟨w.heap.size, 0, none⟩)) := by rw [HA.out]; kernel_rfl
      obtain ⟨c0, c1, c2, c3⟩ := oX.four
      refine ⟨?_⟩
      go_simp
      refine hK (upd U 34 (.agg #[.bool xX, .slice aX nX cX, .bool yX, .slice eX mX fX])) _ _ ?_ ?_
      · rw [HA.out]; kernel_rfl
      · exact ⟨fb, fk, fs, oX, oY, oR, oI, oJ, (fun _ => rfl), f1, f2, f3, f4, f5, f6, f7, f8, f9, f12, s10, s11, m8, m9, d8_9⟩
    refine StepsU.run rfl ?_ ?_
    · intro L U wr hF hlk haf A K hA hK
      have HA : Hid (A = putAll _ _ U) := hA
      clear hA
      simp [Aft, Region.binds] at haf
      obtain ⟨fb, fk, fs, oX, oY, oR, oI, oJ, f0, f1, f2, f3, f4, f5, f6, f7, f8, f9, f12, s10, s11, m8, m9, d8_9⟩ := hF
      have g0 := f0 (by simp [haf])
      have e34 := rd HA.out 34 (by kernel_rfl) g0
      refine ⟨?_⟩
      go_simp
      refine (low_any _ x1 400 _ (hX.val.keepI fk) (by decide)).mono ?_
      rintro e w1 ⟨u1, u2, u3, u4, rfl, hr, hb⟩
      go_simp
      refine hK (upd U 35 (.agg #[.bool u1, .slice u2 u3 u4])) _ _ ?_ ?_
      · rw [HA.out]; kernel_rfl
      · exact ⟨(fb.step hb (Nat.le_refl _)), (fk.trans (KeepI.below hb)), (Nat.le_trans fs hb.size), (oX.stay hb), (oY.stay hb), (oR.stay hb), (oI.stay hb), (oJ.stay hb), (mv mo_is (KeepI.below hb) f0), (fun _ => hr), (mv mo_is (KeepI.below hb) f2), (mv (mo_t3 mo_rnm mo_rnm mo_is) (KeepI.below hb) f3), (mv (mo_t3 mo_rnm mo_rnm mo_is) (KeepI.below hb) f4), (mv mo_rnm (KeepI.below hb) f5), (mv mo_rnm (KeepI.below hb) f6), (mv mo_is (KeepI.below hb) f7), (fun h => (f8 h).below hb), (fun h => (f9 h).below hb), (mv mo_is (KeepI.below hb) f12), s10, s11, m8, m9, d8_9⟩
    refine StepsU.run rfl ?_ ?_
    · intro L U wr hF hlk haf A K hA hK
      have HA : Hid (A = putAll _ _ U) := hA
      clear hA
      simp [Aft, Region.binds] at haf
      obtain ⟨fb, fk, fs, oX, oY, oR, oI, oJ, f0, f1, f2, f3, f4, f5, f6, f7, f8, f9, f12, s10, s11, m8, m9, d8_9⟩ := hF
      have e6 : A.tmps[6]? = some (.pointer (some ⟨bI, 0, none⟩)) := by rw [HA.out]; kernel_rfl
      obtain ⟨c0, c1, -, -⟩ := oI.two
      refine ⟨?_⟩
      go_simp
      refine hK (upd U 36 (.agg #[.bool xI, .slice aI nI cI])) _ _ ?_ ?_
      · rw [HA.out]; kernel_rfl
      · exact ⟨fb, fk, fs, oX, oY, oR, oI, oJ, f0, f1, (fun _ => rfl), f3, f4, f5, f6, f7, f8, f9, f12, s10, s11, m8, m9, d8_9⟩
    refine StepsU.run rfl ?_ ?_
    · intro L U wr hF hlk haf A K hA hK
      have HA : Hid (A = putAll _ _ U) := hA
      clear hA
      simp [Aft, Region.binds] at haf
      obtain ⟨fb, fk, fs, oX, oY, oR, oI, oJ, f0, f1, f2, f3, f4, f5, f6, f7, f8, f9, f12, s10, s11, m8, m9, d8_9⟩ := hF
      have g1 := f1 (by simp [haf])
      have e35 := rd HA.out 35 (by kernel_rfl) rfl
      have g2 := f2 (by simp [haf])
      have e36 := rd HA.out 36 (by kernel_rfl) g2
      refine ⟨?_⟩
      go_simp
      refine (rDiv_z _ _ (x1.den : Int) (aG x1 y1) (aB x1 y1) 400 _ (RNum.mono g1 (by decide)) (hI.keepI fk) (by decide) HG.out (aB_def x1 y1)).mono ?_
      rintro e w1 ⟨u1, u2, u3, u4, u5, u6, u7, u8, rfl, hr, hr2, hb⟩
      go_simp
      refine hK (upd U 37 (.tuple #[.agg #[.bool u1, .slice u2 u3 u4], .agg #[.bool u5, .slice u6 u7 u8], .int .i64 0])) _ _ ?_ ?_
      · rw [HA.out]; kernel_rfl
      · exact ⟨(fb.step hb (Nat.le_refl _)), (fk.trans (KeepI.below hb)), (Nat.le_trans fs hb.size), (oX.stay hb), (oY.stay hb), (oR.stay hb), (oI.stay hb), (oJ.stay hb), (mv mo_is (KeepI.below hb) f0), (mv mo_rnm (KeepI.below hb) f1), (mv mo_is (KeepI.below hb) f2), (fun _ => ⟨_, _, _, rfl, hr, hr2, rfl⟩), (mv (mo_t3 mo_rnm mo_rnm mo_is) (KeepI.below hb) f4), (mv mo_rnm (KeepI.below hb) f5), (mv mo_rnm (KeepI.below hb) f6), (mv mo_is (KeepI.below hb) f7), (fun h => (f8 h).below hb), (fun h => (f9 h).below hb), (mv mo_is (KeepI.below hb) f12), s10, s11, m8, m9, d8_9⟩
    refine StepsU.run rfl ?_ ?_
    · intro L U wr hF hlk haf A K hA hK
      have HA : Hid (A = putAll _ _ U) := hA
      clear hA
      simp [Aft, Region.binds] at haf
      obtain ⟨fb, fk, fs, oX, oY, oR, oI, oJ, f0, f1, f2, f3, f4, f5, f6, f7, f8, f9, f12, s10, s11, m8, m9, d8_9⟩ := hF
      have g3 := f3 (by simp [haf])
      have e37 := rd HA.out 37 (by kernel_rfl) rfl
      refine ⟨?_⟩
      go_simp
      refine hK (upd U 33 (U 37)) _ _ ?_ ?_
      · rw [HA.out]; kernel_rfl
      · exact ⟨fb, fk, fs, oX, oY, oR, oI, oJ, f0, f1, f2, f3, (fun _ => g3), f5, f6, f7, f8, f9, f12, s10, s11, m8, m9, d8_9⟩
    refine StepsU.run rfl ?_ ?_
    · intro L U wr hF hlk haf A K hA hK
      have HA : Hid (A = putAll _ _ U) := hA
      clear hA
      simp [Aft, Region.binds] at haf
      obtain ⟨fb, fk, fs, oX, oY, oR, oI, oJ, f0, f1, f2, f3, f4, f5, f6, f7, f8, f9, f12, s10, s11, m8, m9, d8_9⟩ := hF
      have g4 := f4 (by simp [haf])
      obtain ⟨t0, t1, t2, hT, k0, k1, k2⟩ := g4
      have e33 := rd HA.out 33 (by kernel_rfl) hT
      refine ⟨?_⟩
      go_simp
      have hs10 : L 10 = false := by cases h : L 10 with | false => rfl | true => rw [s10 h] at hlk; cases hlk
      refine hK (upd U 38 t0) _ _ ?_ ?_
      · rw [HA.out]; kernel_rfl
      · exact ⟨fb, fk, fs, oX, oY, oR, oI, oJ, f0, f1, f2, f3, f4, (fun _ => k0), f6, f7, (fun h => flip_v (P := fun v => NEW _ _ _ _ v) hs10 (f8 h)), f9, f12, (fun _ => rfl), s11, m8, m9, d8_9⟩
    refine StepsU.run rfl ?_ ?_
    · intro L U wr hF hlk haf A K hA hK
      have HA : Hid (A = putAll _ _ U) := hA
      clear hA
      simp [Aft, Region.binds] at haf
      obtain ⟨fb, fk, fs, oX, oY, oR, oI, oJ, f0, f1, f2, f3, f4, f5, f6, f7, f8, f9, f12, s10, s11, m8, m9, d8_9⟩ := hF
      have g4 := f4 (by simp [haf])
      obtain ⟨t0, t1, t2, hT, k0, k1, k2⟩ := g4
      have e33 := rd HA.out 33 (by kernel_rfl) hT
      refine ⟨?_⟩
      go_simp
      have hs11 : L 11 = false := by cases h : L 11 with | false => rfl | true => rw [s11 h] at hlk; cases hlk
      refine hK (upd U 39 t1) _ _ ?_ ?_
      · rw [HA.out]; kernel_rfl
      · exact ⟨fb, fk, fs, oX, oY, oR, oI, oJ, f0, f1, f2, f3, f4, f5, (fun _ => k1), f7, f8, (fun h => flip_v (P := fun v => NEW _ _ _ _ v) hs11 (f9 h)), f12, s10, (fun _ => rfl), m8, m9, d8_9⟩
    refine StepsU.run rfl ?_ ?_
    · intro L U wr hF hlk haf A K hA hK
      have HA : Hid (A = putAll _ _ U) := hA
      clear hA
      simp [Aft, Region.binds] at haf
      obtain ⟨fb, fk, fs, oX, oY, oR, oI, oJ, f0, f1, f2, f3, f4, f5, f6, f7, f8, f9, f12, s10, s11, m8, m9, d8_9⟩ := hF
      have g4 := f4 (by simp [haf])
      obtain ⟨t0, t1, t2, hT, k0, k1, k2⟩ := g4
      have e33 := rd HA.out 33 (by kernel_rfl) hT
      refine ⟨?_⟩
      go_simp
      refine hK (upd U 40 t2) _ _ ?_ ?_
      · rw [HA.out]; kernel_rfl
      · exact ⟨fb, fk, fs, oX, oY, oR, oI, oJ, f0, f1, f2, f3, f4, f5, f6, (fun _ => k2), f8, f9, f12, s10, s11, m8, m9, d8_9⟩
    refine StepsU.run rfl ?_ ?_
    · intro L U wr hF hlk haf A K hA hK
      have HA : Hid (A = putAll _ _ U) := hA
      clear hA
      simp [Aft, Region.binds] at haf
      obtain ⟨fb, fk, fs, oX, oY, oR, oI, oJ, f0, f1, f2, f3, f4, f5, f6, f7, f8, f9, f12, s10, s11, m8, m9, d8_9⟩ := hF
      have hst : L 10 = false := by cases h : L 10 with | false => rfl | true => rw [m8 h] at hlk; cases hlk
      refine ⟨?_⟩
      go_simp
      have hb := below_new wr (.cells #[.bool false, .slice none 0 0] 33 (0, 0))
      refine hK (upd U 10 (.pointer (some ⟨wr.heap.size, 0, none⟩))) _ _ ?_ ?_
      · rw [HA.out]; kernel_rfl
      · exact ⟨(fb.step hb (Nat.le_refl _)), (fk.trans (KeepI.below hb)), (Nat.le_trans fs hb.size), (oX.stay hb), (oY.stay hb), (oR.stay hb), (oI.stay hb), (oJ.stay hb), (mv mo_is (KeepI.below hb) f0), (mv mo_rnm (KeepI.below hb) f1), (mv mo_is (KeepI.below hb) f2), (mv (mo_t3 mo_rnm mo_rnm mo_is) (KeepI.below hb) f3), (mv (mo_t3 mo_rnm mo_rnm mo_is) (KeepI.below hb) f4), (mv mo_rnm (KeepI.below hb) f5), (mv mo_rnm (KeepI.below hb) f6), (mv mo_is (KeepI.below hb) f7), (fun _ => new_zero hst (NEW.mk fs (noI2 _ _ _ _))), (fun h => (f9 h).below hb), (mv mo_is (KeepI.below hb) f12), s10, s11, (fun _ => rfl), m9, (fun _ h => (f9 h).apart.symm)⟩
    refine StepsU.run rfl ?_ ?_
    · intro L U wr hF hlk haf A K hA hK
      have HA : Hid (A = putAll _ _ U) := hA
      clear hA
      simp [Aft, Region.binds] at haf
      obtain ⟨fb, fk, fs, oX, oY, oR, oI, oJ, f0, f1, f2, f3, f4, f5, f6, f7, f8, f9, f12, s10, s11, m8, m9, d8_9⟩ := hF
      have hst : L 11 = false := by cases h : L 11 with | false => rfl | true => rw [m9 h] at hlk; cases hlk
      refine ⟨?_⟩
      go_simp
      have hb := below_new wr (.cells #[.bool false, .slice none 0 0] 33 (0, 0))
      refine hK (upd U 11 (.pointer (some ⟨wr.heap.size, 0, none⟩))) _ _ ?_ ?_
      · rw [HA.out]; kernel_rfl
      · exact ⟨(fb.step hb (Nat.le_refl _)), (fk.trans (KeepI.below hb)), (Nat.le_trans fs hb.size), (oX.stay hb), (oY.stay hb), (oR.stay hb), (oI.stay hb), (oJ.stay hb), (mv mo_is (KeepI.below hb) f0), (mv mo_rnm (KeepI.below hb) f1), (mv mo_is (KeepI.below hb) f2), (mv (mo_t3 mo_rnm mo_rnm mo_is) (KeepI.below hb) f3), (mv (mo_t3 mo_rnm mo_rnm mo_is) (KeepI.below hb) f4), (mv mo_rnm (KeepI.below hb) f5), (mv mo_rnm (KeepI.below hb) f6), (mv mo_is (KeepI.below hb) f7), (fun h => (f8 h).below hb), (fun _ => new_zero hst (NEW.mk fs (noI2 _ _ _ _))), (mv mo_is (KeepI.below hb) f12), s10, s11, m8, (fun _ => rfl), (fun h _ => (f8 h).apart)⟩
    refine StepsU.run rfl ?_ ?_
    · intro L U wr hF hlk haf A K hA hK
      have HA : Hid (A = putAll _ _ U) := hA
      clear hA
      simp [Aft, Region.binds] at haf
      obtain ⟨fb, fk, fs, oX, oY, oR, oI, oJ, f0, f1, f2, f3, f4, f5, f6, f7, f8, f9, f12, s10, s11, m8, m9, d8_9⟩ := hF
      have g5 := f5 (by simp [haf])
      obtain ⟨px, pa, pn, pc, hsrc⟩ := RNum.shape g5
      have e38 := rd HA.out 38 (by kernel_rfl) hsrc
      have gA := f8 (by simp [haf])
      simp only [hlk, cond_false] at gA
      obtain ⟨b, cs, hp, hBb, hcs, hblk, -⟩ := gA
      injection hcs with hcs
      subst hcs
      have e10 := rd HA.out 10 (by kernel_rfl) hp
      obtain ⟨c0, c1, q0, q1⟩ := hblk.two
      refine ⟨?_⟩
      go_simp
      have hk := keepI_two hblk px pa pn pc
      refine hK U _ _ ?_ ?_
      · exact HA.out
      · exact ⟨(below_store2 fb (Nat.le_trans hbw.size hBb) _ _), (fk.trans hk), (by simpa using fs), (oX.other2 (Nat.ne_of_gt (Nat.lt_of_lt_of_le ltX hBb)) _ _), (oY.other2 (Nat.ne_of_gt (Nat.lt_of_lt_of_le ltY hBb)) _ _), (oR.other2 (Nat.ne_of_gt (Nat.lt_of_lt_of_le ltR hBb)) _ _), (oI.other2 (Nat.ne_of_gt (Nat.lt_of_lt_of_le ltI hBb)) _ _), (oJ.other2 (Nat.ne_of_gt (Nat.lt_of_lt_of_le ltJ hBb)) _ _), (mv mo_is hk f0), (mv mo_rnm hk f1), (mv mo_is hk f2), (mv (mo_t3 mo_rnm mo_rnm mo_is) hk f3), (mv (mo_t3 mo_rnm mo_rnm mo_is) hk f4), (mv mo_rnm hk f5), (mv mo_rnm hk f6), (mv mo_is hk f7), (fun _ => stored_new hp hsrc (NEW.over2 hBb hblk px pa pn pc)), (fun h => (f9 h).other2 (fun ee => ((d8_9 (by simp [haf]) h).symm) (ee.trans hp.symm)) _ _), (mv mo_is hk f12), (fun _ => by simp [haf]), s11, (fun _ => by simp [haf]), m9, d8_9⟩
    refine StepsU.run rfl ?_ ?_
    · intro L U wr hF hlk haf A K hA hK
      have HA : Hid (A = putAll _ _ U) := hA
      clear hA
      simp [Aft, Region.binds] at haf
      obtain ⟨fb, fk, fs, oX, oY, oR, oI, oJ, f0, f1, f2, f3, f4, f5, f6, f7, f8, f9, f12, s10, s11, m8, m9, d8_9⟩ := hF
      have g6 := f6 (by simp [haf])
      obtain ⟨px, pa, pn, pc, hsrc⟩ := RNum.shape g6
      have e39 := rd HA.out 39 (by kernel_rfl) hsrc
      have gA := f9 (by simp [haf])
      simp only [hlk, cond_false] at gA
      obtain ⟨b, cs, hp, hBb, hcs, hblk, -⟩ := gA
      injection hcs with hcs
      subst hcs
      have e11 := rd HA.out 11 (by kernel_rfl) hp
      obtain ⟨c0, c1, q0, q1⟩ := hblk.two
      refine ⟨?_⟩
      go_simp
      have hk := keepI_two hblk px pa pn pc
      refine hK U _ _ ?_ ?_
      · exact HA.out
      · exact ⟨(below_store2 fb (Nat.le_trans hbw.size hBb) _ _), (fk.trans hk), (by simpa using fs), (oX.other2 (Nat.ne_of_gt (Nat.lt_of_lt_of_le ltX hBb)) _ _), (oY.other2 (Nat.ne_of_gt (Nat.lt_of_lt_of_le ltY hBb)) _ _), (oR.other2 (Nat.ne_of_gt (Nat.lt_of_lt_of_le ltR hBb)) _ _), (oI.other2 (Nat.ne_of_gt (Nat.lt_of_lt_of_le ltI hBb)) _ _), (oJ.other2 (Nat.ne_of_gt (Nat.lt_of_lt_of_le ltJ hBb)) _ _), (mv mo_is hk f0), (mv mo_rnm hk f1), (mv mo_is hk f2), (mv (mo_t3 mo_rnm mo_rnm mo_is) hk f3), (mv (mo_t3 mo_rnm mo_rnm mo_is) hk f4), (mv mo_rnm hk f5), (mv mo_rnm hk f6), (mv mo_is hk f7), (fun h => (f8 h).other2 (fun ee => (d8_9 h (by simp [haf])) (ee.trans hp.symm)) _ _), (fun _ => stored_new hp hsrc (NEW.over2 hBb hblk px pa pn pc)), (mv mo_is hk f12), s10, (fun _ => by simp [haf]), m8, (fun _ => by simp [haf]), d8_9⟩
    refine StepsU.run rfl ?_ StepsU.nil
    · intro L U wr hF hlk haf A K hA hK
      have HA : Hid (A = putAll _ _ U) := hA
      clear hA
      simp [Aft, Region.binds] at haf
      obtain ⟨fb, fk, fs, oX, oY, oR, oI, oJ, f0, f1, f2, f3, f4, f5, f6, f7, f8, f9, f12, s10, s11, m8, m9, d8_9⟩ := hF
      have g7 := f7 (by simp [haf])
      have e40 := rd HA.out 40 (by kernel_rfl) rfl
      refine ⟨?_⟩
      go_simp
      refine hK (upd U 12 (U 40)) _ _ ?_ ?_
      · rw [HA.out]; kernel_rfl
      · exact ⟨fb, fk, fs, oX, oY, oR, oI, oJ, f0, f1, f2, f3, f4, f5, f6, f7, f8, f9, (fun _ => g7), s10, s11, m8, m9, d8_9⟩
  intro L U3 V3 hall hF
  have hbw0 := hbw
  clear hbw
  obtain ⟨hbw, fk, fs, oX, oY, oR, oI, oJ, f0, f1, f2, f3, f4, f5, f6, f7, f8, f9, f12, s10, s11, m8, m9, d8_9⟩ := hF
  clear s10 s11 m8 m9
  have g0 := f0 (hall 0 (by decide))
  have g1 := f1 (hall 1 (by decide))
  have g2 := f2 (hall 2 (by decide))
  have g3 := f3 (hall 3 (by decide))
  have g4 := f4 (hall 4 (by decide))
  have g5 := f5 (hall 5 (by decide))
  have g6 := f6 (hall 6 (by decide))
  have g7 := f7 (hall 7 (by decide))
  have g8 := f8 (hall 8 (by decide))
  rw [hall 10 (by decide), cond_true] at g8
  have g9 := f9 (hall 9 (by decide))
  rw [hall 11 (by decide), cond_true] at g9
  have g12 := f12 (hall 12 (by decide))
  replace d8_9 := d8_9 (hall 8 (by decide)) (hall 9 (by decide))
  clear hall f0 f1 f2 f3 f4 f5 f6 f7 f8 f9 f12
  replace hX := hX.keepI fk
  replace hY := hY.keepI fk
  replace hI := hI.keepI fk
  replace hJ := hJ.keepI fk
  obtain ⟨bL, csL, hpL, lbL, hcsL, oL, -⟩ := g8
  obtain ⟨xL, aL, nL, cL, hvL⟩ := RNum.shape g5
  have hL : RNum _ _ _ _ := g5
  rw [hvL] at hL
  rw [hvL] at hcsL
  injection hcsL with hcsL
  subst hcsL
  have ltL := oL.lt
  obtain ⟨bLl, csLl, hpLl, lbLl, hcsLl, oLl, -⟩ := g9
  obtain ⟨xLl, aLl, nLl, cLl, hvLl⟩ := RNum.shape g6
  have hLl : RNum _ _ _ _ := g6
  rw [hvLl] at hLl
  rw [hvLl] at hcsLl
  injection hcsLl with hcsLl
  subst hcsLl
  have ltLl := oLl.lt
  have neLLl : bL ≠ bLl := fun h => d8_9 (by rw [hpL, hpLl, h])
  clear d8_9
  have neXL : w.heap.size ≠ bL := Nat.ne_of_lt (Nat.lt_of_lt_of_le ltX lbL)
  have neYL : w.heap.size + 1 ≠ bL := Nat.ne_of_lt (Nat.lt_of_lt_of_le ltY lbL)
  have neRL : w.heap.size + 1 + 1 ≠ bL := Nat.ne_of_lt (Nat.lt_of_lt_of_le ltR lbL)
  have neIL : bI ≠ bL := Nat.ne_of_lt (Nat.lt_of_lt_of_le ltI lbL)
  have neJL : bJ ≠ bL := Nat.ne_of_lt (Nat.lt_of_lt_of_le ltJ lbL)
  have lwL : w.heap.size ≤ bL := Nat.le_trans hbw0.size lbL
  have neXLl : w.heap.size ≠ bLl := Nat.ne_of_lt (Nat.lt_of_lt_of_le ltX lbLl)
  have neYLl : w.heap.size + 1 ≠ bLl := Nat.ne_of_lt (Nat.lt_of_lt_of_le ltY lbLl)
  have neRLl : w.heap.size + 1 + 1 ≠ bLl := Nat.ne_of_lt (Nat.lt_of_lt_of_le ltR lbLl)
  have neILl : bI ≠ bLl := Nat.ne_of_lt (Nat.lt_of_lt_of_le ltI lbLl)
  have neJLl : bJ ≠ bLl := Nat.ne_of_lt (Nat.lt_of_lt_of_le ltJ lbLl)
  have lwLl : w.heap.size ≤ bLl := Nat.le_trans hbw0.size lbLl
  clear lbL lbLl
  replace ltX := Nat.lt_of_lt_of_le ltX fs
  replace ltY := Nat.lt_of_lt_of_le ltY fs
  replace ltR := Nat.lt_of_lt_of_le ltR fs
  replace ltI := Nat.lt_of_lt_of_le ltI fs
  replace ltJ := Nat.lt_of_lt_of_le ltJ fs
  clear g0
  clear g1
  clear g2
  clear g3
  clear g4
  clear g5
  clear g6
  clear g7
  clear g12
  clear hbw0
  simp only [setM_some, setM_none, setM_nil]
  rw [hpL, hpLl]
  clear hpL hpLl hvL hvLl
  clear fk fs
  clear ltLl oLl
  clear hLl
  obtain ⟨Xc0, Xc1, Xc2, Xc3⟩ := oX.four
  obtain ⟨Xq0, Xq1, Xq2, Xq3⟩ := oX.frozen4
  obtain ⟨Jc0, Jc1, Jq0, Jq1⟩ := oJ.two
  go_wp2_with fail
  refine (rMul_any _ _ x1.num (aD x1 y1) _ 400 830 _ hX.1 hJ (by decide) rfl).mono ?_
  rintro e w4 ⟨xP, aP, nP, cP, rfl, hP, hb⟩
  clear Xc0 Xc1 Xc2 Xc3 Xq0 Xq1 Xq2 Xq3
  clear Jc0 Jc1 Jq0 Jq1
  replace oX := oX.stay hb
  replace ltX := oX.lt
  replace oY := oY.stay hb
  replace ltY := oY.lt
  replace oR := oR.stay hb
  replace ltR := oR.lt
  replace oI := oI.stay hb
  replace ltI := oI.lt
  replace oJ := oJ.stay hb
  replace ltJ := oJ.lt
  replace oL := oL.stay hb
  replace ltL := oL.lt
  replace hX := hX.below hb
  replace hY := hY.below hb
  replace hI := hI.below hb
  replace hJ := hJ.below hb
  replace hL := hL.below hb
  replace hbw := hbw.step hb (Nat.le_refl _)
  clear hb
  have hn := below_new w4 (.cells #[.bool xP, .slice aP nP cP] 33 (0, 0))
  have oP := Blk.new w4 33 #[.bool xP, .slice aP nP cP]
  have neXP : w.heap.size ≠ w4.heap.size := Nat.ne_of_lt ltX
  have neYP : w.heap.size + 1 ≠ w4.heap.size := Nat.ne_of_lt ltY
  have neRP : w.heap.size + 1 + 1 ≠ w4.heap.size := Nat.ne_of_lt ltR
  have neIP : bI ≠ w4.heap.size := Nat.ne_of_lt ltI
  have neJP : bJ ≠ w4.heap.size := Nat.ne_of_lt ltJ
  have neLP : bL ≠ w4.heap.size := Nat.ne_of_lt ltL
  have lwP : w.heap.size ≤ w4.heap.size := hbw.size
  replace oX := oX.stay hn
  replace ltX := oX.lt
  replace oY := oY.stay hn
  replace ltY := oY.lt
  replace oR := oR.stay hn
  replace ltR := oR.lt
  replace oI := oI.stay hn
  replace ltI := oI.lt
  replace oJ := oJ.stay hn
  replace ltJ := oJ.lt
  replace oL := oL.stay hn
  replace ltL := oL.lt
  replace hX := hX.below hn
  replace hY := hY.below hn
  replace hI := hI.below hn
  replace hJ := hJ.below hn
  replace hL := hL.below hn
  replace hP := hP.below hn
  replace hbw := hbw.step hn (Nat.le_refl _)
  clear hn
  have ltP := oP.lt
  obtain ⟨Yc0, Yc1, Yc2, Yc3⟩ := oY.four
  obtain ⟨Yq0, Yq1, Yq2, Yq3⟩ := oY.frozen4
  obtain ⟨Lc0, Lc1, Lq0, Lq1⟩ := oL.two
  go_wp2_with fail
  refine (rMul_any _ _ y1.num (aB x1 y1) _ 400 830 _ hY.1 hL (by decide) rfl).mono ?_
  rintro e w5 ⟨xQ, aQ, nQ, cQ, rfl, hQ, hb⟩
  clear Yc0 Yc1 Yc2 Yc3 Yq0 Yq1 Yq2 Yq3
  clear Lc0 Lc1 Lq0 Lq1
  replace oX := oX.stay hb
  replace ltX := oX.lt
  replace oY := oY.stay hb
  replace ltY := oY.lt
  replace oR := oR.stay hb
  replace ltR := oR.lt
  replace oI := oI.stay hb
  replace ltI := oI.lt
  replace oJ := oJ.stay hb
  replace ltJ := oJ.lt
  replace oL := oL.stay hb
  replace ltL := oL.lt
  replace oP := oP.stay hb
  replace ltP := oP.lt
  replace hX := hX.below hb
  replace hY := hY.below hb
  replace hI := hI.below hb
  replace hJ := hJ.below hb
  replace hL := hL.below hb
  replace hP := hP.below hb
  replace hbw := hbw.step hb (Nat.le_refl _)
  clear hb
  have hn := below_new w5 (.cells #[.bool xQ, .slice aQ nQ cQ] 33 (0, 0))
  have oQ := Blk.new w5 33 #[.bool xQ, .slice aQ nQ cQ]
  have neXQ : w.heap.size ≠ w5.heap.size := Nat.ne_of_lt ltX
  have neYQ : w.heap.size + 1 ≠ w5.heap.size := Nat.ne_of_lt ltY
  have neRQ : w.heap.size + 1 + 1 ≠ w5.heap.size := Nat.ne_of_lt ltR
  have neIQ : bI ≠ w5.heap.size := Nat.ne_of_lt ltI
  have neJQ : bJ ≠ w5.heap.size := Nat.ne_of_lt ltJ
  have neLQ : bL ≠ w5.heap.size := Nat.ne_of_lt ltL
  have nePQ : w4.heap.size ≠ w5.heap.size := Nat.ne_of_lt ltP
  have lwQ : w.heap.size ≤ w5.heap.size := hbw.size
  replace oX := oX.stay hn
  replace ltX := oX.lt
  replace oY := oY.stay hn
  replace ltY := oY.lt
  replace oR := oR.stay hn
  replace ltR := oR.lt
  replace oI := oI.stay hn
  replace ltI := oI.lt
  replace oJ := oJ.stay hn
  replace ltJ := oJ.lt
  replace oL := oL.stay hn
  replace ltL := oL.lt
  replace oP := oP.stay hn
  replace ltP := oP.lt
  replace hX := hX.below hn
  replace hY := hY.below hn
  replace hI := hI.below hn
  replace hJ := hJ.below hn
  replace hL := hL.below hn
  replace hP := hP.below hn
  replace hQ := hQ.below hn
  replace hbw := hbw.step hn (Nat.le_refl _)
  clear hn
  have ltQ := oQ.lt
  obtain ⟨Pc0, Pc1, Pq0, Pq1⟩ := oP.two
  obtain ⟨Qc0, Qc1, Qq0, Qq1⟩ := oQ.two
  go_wp2_with fail
  refine (rAdd_any _ _ (x1.num * aD x1 y1) (y1.num * aB x1 y1) (aT x1 y1) 1231 1231 _ hP hQ (by decide) (aT_def x1 y1)).mono ?_
  rintro e w6 ⟨xS, aS, nS, cS, rfl, hS, hb⟩
  clear Pc0 Pc1 Pq0 Pq1
  clear Qc0 Qc1 Qq0 Qq1
  replace oX := oX.stay hb
  replace ltX := oX.lt
  replace oY := oY.stay hb
  replace ltY := oY.lt
  replace oR := oR.stay hb
  replace ltR := oR.lt
  replace oI := oI.stay hb
  replace ltI := oI.lt
  replace oJ := oJ.stay hb
  replace ltJ := oJ.lt
  replace oL := oL.stay hb
  replace ltL := oL.lt
  replace oP := oP.stay hb
  replace ltP := oP.lt
  replace oQ := oQ.stay hb
  replace ltQ := oQ.lt
  replace hX := hX.below hb
  replace hY := hY.below hb
  replace hI := hI.below hb
  replace hJ := hJ.below hb
  replace hL := hL.below hb
  replace hP := hP.below hb
  replace hQ := hQ.below hb
  replace hbw := hbw.step hb (Nat.le_refl _)
  clear hb
  have hn := below_new w6 (.cells #[.bool xS, .slice aS nS cS] 33 (0, 0))
  have oS := Blk.new w6 33 #[.bool xS, .slice aS nS cS]
  have neXS : w.heap.size ≠ w6.heap.size := Nat.ne_of_lt ltX
  have neYS : w.heap.size + 1 ≠ w6.heap.size := Nat.ne_of_lt ltY
  have neRS : w.heap.size + 1 + 1 ≠ w6.heap.size := Nat.ne_of_lt ltR
  have neIS : bI ≠ w6.heap.size := Nat.ne_of_lt ltI
  have neJS : bJ ≠ w6.heap.size := Nat.ne_of_lt ltJ
  have neLS : bL ≠ w6.heap.size := Nat.ne_of_lt ltL
  have nePS : w4.heap.size ≠ w6.heap.size := Nat.ne_of_lt ltP
  have neQS : w5.heap.size ≠ w6.heap.size := Nat.ne_of_lt ltQ
  have lwS : w.heap.size ≤ w6.heap.size := hbw.size
  replace oX := oX.stay hn
  replace ltX := oX.lt
  replace oY := oY.stay hn
  replace ltY := oY.lt
  replace oR := oR.stay hn
  replace ltR := oR.lt
  replace oI := oI.stay hn
  replace ltI := oI.lt
  replace oJ := oJ.stay hn
  replace ltJ := oJ.lt
  replace oL := oL.stay hn
  replace ltL := oL.lt
  replace oP := oP.stay hn
  replace ltP := oP.lt
  replace oQ := oQ.stay hn
  replace ltQ := oQ.lt
  replace hX := hX.below hn
  replace hY := hY.below hn
  replace hI := hI.below hn
  replace hJ := hJ.below hn
  replace hL := hL.below hn
  replace hP := hP.below hn
  replace hQ := hQ.below hn
  replace hS := hS.below hn
  replace hbw := hbw.step hn (Nat.le_refl _)
  clear hn
  have ltS := oS.lt
  obtain ⟨Sc0, Sc1, Sq0, Sq1⟩ := oS.two
  obtain ⟨Ic0, Ic1, Iq0, Iq1⟩ := oI.two
  go_wp2_with fail
  refine (rGcd_L _ _ (aT x1 y1) (aG x1 y1) (aH x1 y1) 2463 _ hS (hI.mono (by decide)) (by decide) (aH_def x1 y1)).mono ?_
  rintro e w7 ⟨xE, aE, nE, cE, rfl, hE, hb⟩
  clear Sc0 Sc1 Sq0 Sq1
  clear Ic0 Ic1 Iq0 Iq1
  replace oX := oX.stay hb
  replace ltX := oX.lt
  replace oY := oY.stay hb
  replace ltY := oY.lt
  replace oR := oR.stay hb
  replace ltR := oR.lt
  replace oI := oI.stay hb
  replace ltI := oI.lt
  replace oJ := oJ.stay hb
  replace ltJ := oJ.lt
  replace oL := oL.stay hb
  replace ltL := oL.lt
  replace oP := oP.stay hb
  replace ltP := oP.lt
  replace oQ := oQ.stay hb
  replace ltQ := oQ.lt
  replace oS := oS.stay hb
  replace ltS := oS.lt
  replace hX := hX.below hb
  replace hY := hY.below hb
  replace hI := hI.below hb
  replace hJ := hJ.below hb
  replace hL := hL.below hb
  replace hP := hP.below hb
  replace hQ := hQ.below hb
  replace hS := hS.below hb
  replace hbw := hbw.step hb (Nat.le_refl _)
  clear hb
  have hn := below_new w7 (.cells #[.bool xE, .slice aE nE cE] 33 (0, 0))
  have oE := Blk.new w7 33 #[.bool xE, .slice aE nE cE]
  have neXE : w.heap.size ≠ w7.heap.size := Nat.ne_of_lt ltX
  have neYE : w.heap.size + 1 ≠ w7.heap.size := Nat.ne_of_lt ltY
  have neRE : w.heap.size + 1 + 1 ≠ w7.heap.size := Nat.ne_of_lt ltR
  have neIE : bI ≠ w7.heap.size := Nat.ne_of_lt ltI
  have neJE : bJ ≠ w7.heap.size := Nat.ne_of_lt ltJ
  have neLE : bL ≠ w7.heap.size := Nat.ne_of_lt ltL
  have nePE : w4.heap.size ≠ w7.heap.size := Nat.ne_of_lt ltP
  have neQE : w5.heap.size ≠ w7.heap.size := Nat.ne_of_lt ltQ
  have neSE : w6.heap.size ≠ w7.heap.size := Nat.ne_of_lt ltS
  have lwE : w.heap.size ≤ w7.heap.size := hbw.size
  replace oX := oX.stay hn
  replace ltX := oX.lt
  replace oY := oY.stay hn
  replace ltY := oY.lt
  replace oR := oR.stay hn
  replace ltR := oR.lt
  replace oI := oI.stay hn
  replace ltI := oI.lt
  replace oJ := oJ.stay hn
  replace ltJ := oJ.lt
  replace oL := oL.stay hn
  replace ltL := oL.lt
  replace oP := oP.stay hn
  replace ltP := oP.lt
  replace oQ := oQ.stay hn
  replace ltQ := oQ.lt
  replace oS := oS.stay hn
  replace ltS := oS.lt
  replace hX := hX.below hn
  replace hY := hY.below hn
  replace hI := hI.below hn
  replace hJ := hJ.below hn
  replace hL := hL.below hn
  replace hP := hP.below hn
  replace hQ := hQ.below hn
  replace hS := hS.below hn
  replace hE := hE.below hn
  replace hbw := hbw.step hn (Nat.le_refl _)
  clear hn
  have ltE := oE.lt
  go_wp2
  generalize (w7.alloc (.cells #[.bool xE, .slice aE nE cE] 33 (0, 0))) = W7 at hbw oX oY oR oI oJ oL oP oQ oS oE ltX ltY ltR ltI ltJ ltL ltP ltQ ltS ltE hX hY hI hJ hL hP hQ hS hE ⊢
  refine wp_region_M (by kernel_rfl) [17, 18, 19, 55, 56, 57, 58, 59, 60, 61, 62] [none, none, none, none, none, none, none, none, none, none, none, none, none, none, none, none, none, some 17, some 18, some 19, none, none, none, none, none, none, none, none, none, none, none, none, none, none, none, none, none, none, none, none, none, none, none, none, none, none, none, none, none, none, none, none, none, none, none, some 55, some 56, some 57, some 58, some 59, some 60, some 61, some 62] (fun U => by kernel_rfl) (fun L U wr => Below w.heap.size w wr ∧ KeepI W7 wr ∧ W7.heap.size ≤ wr.heap.size ∧ Blk 35 wr (w.heap.size) #[.bool xX, .slice aX nX cX, .bool yX, .slice eX mX fX] ∧ Blk 35 wr (w.heap.size + 1) #[.bool xY, .slice aY nY cY, .bool yY, .slice eY mY fY] ∧ Blk 35 wr (w.heap.size + 1 + 1) #[.bool false, .slice none 0 0, .bool false, .slice none 0 0] ∧ Blk 33 wr (bL) #[.bool xL, .slice aL nL cL] ∧ Blk 33 wr (w4.heap.size) #[.bool xP, .slice aP nP cP] ∧ Blk 33 wr (w5.heap.size) #[.bool xQ, .slice aQ nQ cQ] ∧ Blk 33 wr (w6.heap.size) #[.bool xS, .slice aS nS cS] ∧ Blk 33 wr (w7.heap.size) #[.bool xE, .slice aE nE cE] ∧ (L 0 = true → IS (.agg #[.bool xY, .slice aY nY cY, .bool yY, .slice eY mY fY]) (U 56) wr) ∧ (L 1 = true → RNM (y1.den : Int) 400 (U 57) wr) ∧ (L 2 = true → IS (.agg #[.bool xE, .slice aE nE cE]) (U 58) wr) ∧ (L 3 = true → T3 (RNM (aK x1 y1) 4956) (RNM ((y1.den : Int).fmod (aH x1 y1)) 4956) (IS (.int .i64 0)) (U 59) wr) ∧ (L 4 = true → T3 (RNM (aK x1 y1) 4956) (RNM ((y1.den : Int).fmod (aH x1 y1)) 4956) (IS (.int .i64 0)) (U 55) wr) ∧ (L 5 = true → RNM (aK x1 y1) 4956 (U 60) wr) ∧ (L 6 = true → RNM ((y1.den : Int).fmod (aH x1 y1)) 4956 (U 61) wr) ∧ (L 7 = true → IS (.int .i64 0) (U 62) wr) ∧ (L 8 = true → NEW 33 W7.heap.size wr (U 17) (bif L 10 then U 60 else .agg #[.bool false, .slice none 0 0])) ∧ (L 9 = true → NEW 33 W7.heap.size wr (U 18) (bif L 11 then U 61 else .agg #[.bool false, .slice none 0 0])) ∧ (L 12 = true → IS (.int .i64 0) (U 19) wr) ∧ (L 10 = true → L 5 = true) ∧ (L 11 = true → L 6 = true) ∧ (L 10 = true → L 8 = true) ∧ (L 11 = true → L 9 = true) ∧ (L 8 = true → L 9 = true → U 17 ≠ U 18)) (by kernel_rfl) ?_ ?_ ?_
  · exact fun U => ⟨hbw.drew, KeepI.below (Below.refl _ _).drew, Nat.le_refl _, oX.drew, oY.drew, oR.drew, oL.drew, oP.drew, oQ.drew, oS.drew, oE.drew, (fun h => by cases h), (fun h => by cases h), (fun h => by cases h), (fun h => by cases h), (fun h => by cases h), (fun h => by cases h), (fun h => by cases h), (fun h => by cases h), (fun h => by cases h), (fun h => by cases h), (fun h => by cases h), (fun h => by cases h), (fun h => by cases h), (fun h => by cases h), (fun h => by cases h), (fun h => by cases h)⟩
  · refine StepsU.run rfl ?_ ?_
    · intro L U wr hF hlk haf A K hA hK
      have HA : Hid (A = putAll _ _ U) := hA
      clear hA
      simp [Aft, Region.binds] at haf
      obtain ⟨fb, fk, fs, oX, oY, oR, oL, oP, oQ, oS, oE, f0, f1, f2, f3, f4, f5, f6, f7, f8, f9, f12, s10, s11, m8, m9, d8_9⟩ := hF
      have e3 : A.tmps[3]? = some (.pointer (some ⟨w.heap.size + 1, 0, none⟩)) := by rw [HA.out]; kernel_rfl
      obtain ⟨c0, c1, c2, c3⟩ := oY.four
      refine ⟨?_⟩
      go_simp
      refine hK (upd U 56 (.agg #[.bool xY, .slice aY nY cY, .bool yY, .slice eY mY fY])) _ _ ?_ ?_
      · rw [HA.out]; kernel_rfl
      · exact ⟨fb, fk, fs, oX, oY, oR, oL, oP, oQ, oS, oE, (fun _ => rfl), f1, f2, f3, f4, f5, f6, f7, f8, f9, f12, s10, s11, m8, m9, d8_9⟩
    refine StepsU.run rfl ?_ ?_
    · intro L U wr hF hlk haf A K hA hK
      have HA : Hid (A = putAll _ _ U) := hA
      clear hA
      simp [Aft, Region.binds] at haf
      obtain ⟨fb, fk, fs, oX, oY, oR, oL, oP, oQ, oS, oE, f0, f1, f2, f3, f4, f5, f6, f7, f8, f9, f12, s10, s11, m8, m9, d8_9⟩ := hF
      have g0 := f0 (by simp [haf])
      have e56 := rd HA.out 56 (by kernel_rfl) g0
      refine ⟨?_⟩
      go_simp
      refine (low_any _ y1 400 _ (hY.val.keepI fk) (by decide)).mono ?_
      rintro e w1 ⟨u1, u2, u3, u4, rfl, hr, hb⟩
      go_simp
      refine hK (upd U 57 (.agg #[.bool u1, .slice u2 u3 u4])) _ _ ?_ ?_
      · rw [HA.out]; kernel_rfl
      · exact ⟨(fb.step hb (Nat.le_refl _)), (fk.trans (KeepI.below hb)), (Nat.le_trans fs hb.size), (oX.stay hb), (oY.stay hb), (oR.stay hb), (oL.stay hb), (oP.stay hb), (oQ.stay hb), (oS.stay hb), (oE.stay hb), (mv mo_is (KeepI.below hb) f0), (fun _ => hr), (mv mo_is (KeepI.below hb) f2), (mv (mo_t3 mo_rnm mo_rnm mo_is) (KeepI.below hb) f3), (mv (mo_t3 mo_rnm mo_rnm mo_is) (KeepI.below hb) f4), (mv mo_rnm (KeepI.below hb) f5), (mv mo_rnm (KeepI.below hb) f6), (mv mo_is (KeepI.below hb) f7), (fun h => (f8 h).below hb), (fun h => (f9 h).below hb), (mv mo_is (KeepI.below hb) f12), s10, s11, m8, m9, d8_9⟩
    refine StepsU.run rfl ?_ ?_
    · intro L U wr hF hlk haf A K hA hK
      have HA : Hid (A = putAll _ _ U) := hA
      clear hA
      simp [Aft, Region.binds] at haf
      obtain ⟨fb, fk, fs, oX, oY, oR, oL, oP, oQ, oS, oE, f0, f1, f2, f3, f4, f5, f6, f7, f8, f9, f12, s10, s11, m8, m9, d8_9⟩ := hF
      have e16 : A.tmps[16]? = some (.pointer (some ⟨w7.heap.size, 0, none⟩)) := by rw [HA.out]; kernel_rfl
      obtain ⟨c0, c1, -, -⟩ := oE.two
      refine ⟨?_⟩
      go_simp
      refine hK (upd U 58 (.agg #[.bool xE, .slice aE nE cE])) _ _ ?_ ?_
      · rw [HA.out]; kernel_rfl
      · exact ⟨fb, fk, fs, oX, oY, oR, oL, oP, oQ, oS, oE, f0, f1, (fun _ => rfl), f3, f4, f5, f6, f7, f8, f9, f12, s10, s11, m8, m9, d8_9⟩
    refine StepsU.run rfl ?_ ?_
    · intro L U wr hF hlk haf A K hA hK
      have HA : Hid (A = putAll _ _ U) := hA
      clear hA
      simp [Aft, Region.binds] at haf
      obtain ⟨fb, fk, fs, oX, oY, oR, oL, oP, oQ, oS, oE, f0, f1, f2, f3, f4, f5, f6, f7, f8, f9, f12, s10, s11, m8, m9, d8_9⟩ := hF
      have g1 := f1 (by simp [haf])
      have e57 := rd HA.out 57 (by kernel_rfl) rfl
      have g2 := f2 (by simp [haf])
      have e58 := rd HA.out 58 (by kernel_rfl) g2
      refine ⟨?_⟩
      go_simp
      refine (rDiv_z _ _ (y1.den : Int) (aH x1 y1) (aK x1 y1) 2463 _ (RNum.mono g1 (by decide)) (hE.keepI fk) (by decide) HH.out (aK_def x1 y1)).mono ?_
      rintro e w1 ⟨u1, u2, u3, u4, u5, u6, u7, u8, rfl, hr, hr2, hb⟩
      go_simp
      refine hK (upd U 59 (.tuple #[.agg #[.bool u1, .slice u2 u3 u4], .agg #[.bool u5, .slice u6 u7 u8], .int .i64 0])) _ _ ?_ ?_
      · rw [HA.out]; kernel_rfl
      · exact ⟨(fb.step hb (Nat.le_refl _)), (fk.trans (KeepI.below hb)), (Nat.le_trans fs hb.size), (oX.stay hb), (oY.stay hb), (oR.stay hb), (oL.stay hb), (oP.stay hb), (oQ.stay hb), (oS.stay hb), (oE.stay hb), (mv mo_is (KeepI.below hb) f0), (mv mo_rnm (KeepI.below hb) f1), (mv mo_is (KeepI.below hb) f2), (fun _ => ⟨_, _, _, rfl, hr, hr2, rfl⟩), (mv (mo_t3 mo_rnm mo_rnm mo_is) (KeepI.below hb) f4), (mv mo_rnm (KeepI.below hb) f5), (mv mo_rnm (KeepI.below hb) f6), (mv mo_is (KeepI.below hb) f7), (fun h => (f8 h).below hb), (fun h => (f9 h).below hb), (mv mo_is (KeepI.below hb) f12), s10, s11, m8, m9, d8_9⟩
    refine StepsU.run rfl ?_ ?_
    · intro L U wr hF hlk haf A K hA hK
      have HA : Hid (A = putAll _ _ U) := hA
      clear hA
      simp [Aft, Region.binds] at haf
      obtain ⟨fb, fk, fs, oX, oY, oR, oL, oP, oQ, oS, oE, f0, f1, f2, f3, f4, f5, f6, f7, f8, f9, f12, s10, s11, m8, m9, d8_9⟩ := hF
      have g3 := f3 (by simp [haf])
      have e59 := rd HA.out 59 (by kernel_rfl) rfl
      refine ⟨?_⟩
      go_simp
      refine hK (upd U 55 (U 59)) _ _ ?_ ?_
      · rw [HA.out]; kernel_rfl
      · exact ⟨fb, fk, fs, oX, oY, oR, oL, oP, oQ, oS, oE, f0, f1, f2, f3, (fun _ => g3), f5, f6, f7, f8, f9, f12, s10, s11, m8, m9, d8_9⟩
    refine StepsU.run rfl ?_ ?_
    · intro L U wr hF hlk haf A K hA hK
      have HA : Hid (A = putAll _ _ U) := hA
      clear hA
      simp [Aft, Region.binds] at haf
      obtain ⟨fb, fk, fs, oX, oY, oR, oL, oP, oQ, oS, oE, f0, f1, f2, f3, f4, f5, f6, f7, f8, f9, f12, s10, s11, m8, m9, d8_9⟩ := hF
      have g4 := f4 (by simp [haf])
      obtain ⟨t0, t1, t2, hT, k0, k1, k2⟩ := g4
      have e55 := rd HA.out 55 (by kernel_rfl) hT
      refine ⟨?_⟩
      go_simp
      have hs10 : L 10 = false := by cases h : L 10 with | false => rfl | true => rw [s10 h] at hlk; cases hlk
      refine hK (upd U 60 t0) _ _ ?_ ?_
      · rw [HA.out]; kernel_rfl
      · exact ⟨fb, fk, fs, oX, oY, oR, oL, oP, oQ, oS, oE, f0, f1, f2, f3, f4, (fun _ => k0), f6, f7, (fun h => flip_v (P := fun v => NEW _ _ _ _ v) hs10 (f8 h)), f9, f12, (fun _ => rfl), s11, m8, m9, d8_9⟩
    refine StepsU.run rfl ?_ ?_
    · intro L U wr hF hlk haf A K hA hK
      have HA : Hid (A = putAll _ _ U) := hA
      clear hA
      simp [Aft, Region.binds] at haf
      obtain ⟨fb, fk, fs, oX, oY, oR, oL, oP, oQ, oS, oE, f0, f1, f2, f3, f4, f5, f6, f7, f8, f9, f12, s10, s11, m8, m9, d8_9⟩ := hF
      have g4 := f4 (by simp [haf])
      obtain ⟨t0, t1, t2, hT, k0, k1, k2⟩ := g4
      have e55 := rd HA.out 55 (by kernel_rfl) hT
      refine ⟨?_⟩
      go_simp
      have hs11 : L 11 = false := by cases h : L 11 with | false => rfl | true => rw [s11 h] at hlk; cases hlk
      refine hK (upd U 61 t1) _ _ ?_ ?_
      · rw [HA.out]; kernel_rfl
      · exact ⟨fb, fk, fs, oX, oY, oR, oL, oP, oQ, oS, oE, f0, f1, f2, f3, f4, f5, (fun _ => k1), f7, f8, (fun h => flip_v (P := fun v => NEW _ _ _ _ v) hs11 (f9 h)), f12, s10, (fun _ => rfl), m8, m9, d8_9⟩
    refine StepsU.run rfl ?_ ?_
    · intro L U wr hF hlk haf A K hA hK
      have HA : Hid (A = putAll _ _ U) := hA
      clear hA
      simp [Aft, Region.binds] at haf
      obtain ⟨fb, fk, fs, oX, oY, oR, oL, oP, oQ, oS, oE, f0, f1, f2, f3, f4, f5, f6, f7, f8, f9, f12, s10, s11, m8, m9, d8_9⟩ := hF
      have g4 := f4 (by simp [haf])
      obtain ⟨t0, t1, t2, hT, k0, k1, k2⟩ := g4
      have e55 := rd HA.out 55 (by kernel_rfl) hT
      refine ⟨?_⟩
      go_simp
      refine hK (upd U 62 t2) _ _ ?_ ?_
      · rw [HA.out]; kernel_rfl
      · exact ⟨fb, fk, fs, oX, oY, oR, oL, oP, oQ, oS, oE, f0, f1, f2, f3, f4, f5, f6, (fun _ => k2), f8, f9, f12, s10, s11, m8, m9, d8_9⟩
    refine StepsU.run rfl ?_ ?_
    · intro L U wr hF hlk haf A K hA hK
      have HA : Hid (A = putAll _ _ U) := hA
      clear hA
      simp [Aft, Region.binds] at haf
      obtain ⟨fb, fk, fs, oX, oY, oR, oL, oP, oQ, oS, oE, f0, f1, f2, f3, f4, f5, f6, f7, f8, f9, f12, s10, s11, m8, m9, d8_9⟩ := hF
      have hst : L 10 = false := by cases h : L 10 with | false => rfl | true => rw [m8 h] at hlk; cases hlk
      refine ⟨?_⟩
      go_simp
      have hb := below_new wr (.cells #[.bool false, .slice none 0 0] 33 (0, 0))
      refine hK (upd U 17 (.pointer (some ⟨wr.heap.size, 0, none⟩))) _ _ ?_ ?_
      · rw [HA.out]; kernel_rfl
      · exact ⟨(fb.step hb (Nat.le_refl _)), (fk.trans (KeepI.below hb)), (Nat.le_trans fs hb.size), (oX.stay hb), (oY.stay hb), (oR.stay hb), (oL.stay hb), (oP.stay hb), (oQ.stay hb), (oS.stay hb), (oE.stay hb), (mv mo_is (KeepI.below hb) f0), (mv mo_rnm (KeepI.below hb) f1), (mv mo_is (KeepI.below hb) f2), (mv (mo_t3 mo_rnm mo_rnm mo_is) (KeepI.below hb) f3), (mv (mo_t3 mo_rnm mo_rnm mo_is) (KeepI.below hb) f4), (mv mo_rnm (KeepI.below hb) f5), (mv mo_rnm (KeepI.below hb) f6), (mv mo_is (KeepI.below hb) f7), (fun _ => new_zero hst (NEW.mk fs (noI2 _ _ _ _))), (fun h => (f9 h).below hb), (mv mo_is (KeepI.below hb) f12), s10, s11, (fun _ => rfl), m9, (fun _ h => (f9 h).apart.symm)⟩
    refine StepsU.run rfl ?_ ?_
    · intro L U wr hF hlk haf A K hA hK
      have HA : Hid (A = putAll _ _ U) := hA
      clear hA
      simp [Aft, Region.binds] at haf
      obtain ⟨fb, fk, fs, oX, oY, oR, oL, oP, oQ, oS, oE, f0, f1, f2, f3, f4, f5, f6, f7, f8, f9, f12, s10, s11, m8, m9, d8_9⟩ := hF
      have hst : L 11 = false := by cases h : L 11 with | false => rfl | true => rw [m9 h] at hlk; cases hlk
      refine ⟨?_⟩
      go_simp
      have hb := below_new wr (.cells #[.bool false, .slice none 0 0] 33 (0, 0))
      refine hK (upd U 18 (.pointer (some ⟨wr.heap.size, 0, none⟩))) _ _ ?_ ?_
      · rw [HA.out]; kernel_rfl
      · exact ⟨(fb.step hb (Nat.le_refl _)), (fk.trans (KeepI.below hb)), (Nat.le_trans fs hb.size), (oX.stay hb), (oY.stay hb), (oR.stay hb), (oL.stay hb), (oP.stay hb), (oQ.stay hb), (oS.stay hb), (oE.stay hb), (mv mo_is (KeepI.below hb) f0), (mv mo_rnm (KeepI.below hb) f1), (mv mo_is (KeepI.below hb) f2), (mv (mo_t3 mo_rnm mo_rnm mo_is) (KeepI.below hb) f3), (mv (mo_t3 mo_rnm mo_rnm mo_is) (KeepI.below hb) f4), (mv mo_rnm (KeepI.below hb) f5), (mv mo_rnm (KeepI.below hb) f6), (mv mo_is (KeepI.below hb) f7), (fun h => (f8 h).below hb), (fun _ => new_zero hst (NEW.mk fs (noI2 _ _ _ _))), (mv mo_is (KeepI.below hb) f12), s10, s11, m8, (fun _ => rfl), (fun h _ => (f8 h).apart)⟩
    refine StepsU.run rfl ?_ ?_
    · intro L U wr hF hlk haf A K hA hK
      have HA : Hid (A = putAll _ _ U) := hA
      clear hA
      simp [Aft, Region.binds] at haf
      obtain ⟨fb, fk, fs, oX, oY, oR, oL, oP, oQ, oS, oE, f0, f1, f2, f3, f4, f5, f6, f7, f8, f9, f12, s10, s11, m8, m9, d8_9⟩ := hF
      have g5 := f5 (by simp [haf])
      obtain ⟨px, pa, pn, pc, hsrc⟩ := RNum.shape g5
      have e60 := rd HA.out 60 (by kernel_rfl) hsrc
      have gA := f8 (by simp [haf])
      simp only [hlk, cond_false] at gA
      obtain ⟨b, cs, hp, hBb, hcs, hblk, -⟩ := gA
      injection hcs with hcs
      subst hcs
      have e17 := rd HA.out 17 (by kernel_rfl) hp
      obtain ⟨c0, c1, q0, q1⟩ := hblk.two
      refine ⟨?_⟩
      go_simp
      have hk := keepI_two hblk px pa pn pc
      refine hK U _ _ ?_ ?_
      · exact HA.out
      · exact ⟨(below_store2 fb (Nat.le_trans hbw.size hBb) _ _), (fk.trans hk), (by simpa using fs), (oX.other2 (Nat.ne_of_gt (Nat.lt_of_lt_of_le ltX hBb)) _ _), (oY.other2 (Nat.ne_of_gt (Nat.lt_of_lt_of_le ltY hBb)) _ _), (oR.other2 (Nat.ne_of_gt (Nat.lt_of_lt_of_le ltR hBb)) _ _), (oL.other2 (Nat.ne_of_gt (Nat.lt_of_lt_of_le ltL hBb)) _ _), (oP.other2 (Nat.ne_of_gt (Nat.lt_of_lt_of_le ltP hBb)) _ _), (oQ.other2 (Nat.ne_of_gt (Nat.lt_of_lt_of_le ltQ hBb)) _ _), (oS.other2 (Nat.ne_of_gt (Nat.lt_of_lt_of_le ltS hBb)) _ _), (oE.other2 (Nat.ne_of_gt (Nat.lt_of_lt_of_le ltE hBb)) _ _), (mv mo_is hk f0), (mv mo_rnm hk f1), (mv mo_is hk f2), (mv (mo_t3 mo_rnm mo_rnm mo_is) hk f3), (mv (mo_t3 mo_rnm mo_rnm mo_is) hk f4), (mv mo_rnm hk f5), (mv mo_rnm hk f6), (mv mo_is hk f7), (fun _ => stored_new hp hsrc (NEW.over2 hBb hblk px pa pn pc)), (fun h => (f9 h).other2 (fun ee => ((d8_9 (by simp [haf]) h).symm) (ee.trans hp.symm)) _ _), (mv mo_is hk f12), (fun _ => by simp [haf]), s11, (fun _ => by simp [haf]), m9, d8_9⟩
    refine StepsU.run rfl ?_ ?_
    · intro L U wr hF hlk haf A K hA hK
      have HA : Hid (A = putAll _ _ U) := hA
      clear hA
      simp [Aft, Region.binds] at haf
      obtain ⟨fb, fk, fs, oX, oY, oR, oL, oP, oQ, oS, oE, f0, f1, f2, f3, f4, f5, f6, f7, f8, f9, f12, s10, s11, m8, m9, d8_9⟩ := hF
      have g6 := f6 (by simp [haf])
      obtain ⟨px, pa, pn, pc, hsrc⟩ := RNum.shape g6
      have e61 := rd HA.out 61 (by kernel_rfl) hsrc
      have gA := f9 (by simp [haf])
      simp only [hlk, cond_false] at gA
      obtain ⟨b, cs, hp, hBb, hcs, hblk, -⟩ := gA
      injection hcs with hcs
      subst hcs
      have e18 := rd HA.out 18 (by kernel_rfl) hp
      obtain ⟨c0, c1, q0, q1⟩ := hblk.two
      refine ⟨?_⟩
      go_simp
      have hk := keepI_two hblk px pa pn pc
      refine hK U _ _ ?_ ?_
      · exact HA.out
      · exact ⟨(below_store2 fb (Nat.le_trans hbw.size hBb) _ _), (fk.trans hk), (by simpa using fs), (oX.other2 (Nat.ne_of_gt (Nat.lt_of_lt_of_le ltX hBb)) _ _), (oY.other2 (Nat.ne_of_gt (Nat.lt_of_lt_of_le ltY hBb)) _ _), (oR.other2 (Nat.ne_of_gt (Nat.lt_of_lt_of_le ltR hBb)) _ _), (oL.other2 (Nat.ne_of_gt (Nat.lt_of_lt_of_le ltL hBb)) _ _), (oP.other2 (Nat.ne_of_gt (Nat.lt_of_lt_of_le ltP hBb)) _ _), (oQ.other2 (Nat.ne_of_gt (Nat.lt_of_lt_of_le ltQ hBb)) _ _), (oS.other2 (Nat.ne_of_gt (Nat.lt_of_lt_of_le ltS hBb)) _ _), (oE.other2 (Nat.ne_of_gt (Nat.lt_of_lt_of_le ltE hBb)) _ _), (mv mo_is hk f0), (mv mo_rnm hk f1), (mv mo_is hk f2), (mv (mo_t3 mo_rnm mo_rnm mo_is) hk f3), (mv (mo_t3 mo_rnm mo_rnm mo_is) hk f4), (mv mo_rnm hk f5), (mv mo_rnm hk f6), (mv mo_is hk f7), (fun h => (f8 h).other2 (fun ee => (d8_9 h (by simp [haf])) (ee.trans hp.symm)) _ _), (fun _ => stored_new hp hsrc (NEW.over2 hBb hblk px pa pn pc)), (mv mo_is hk f12), s10, (fun _ => by simp [haf]), m8, (fun _ => by simp [haf]), d8_9⟩
    refine StepsU.run rfl ?_ StepsU.nil
    · intro L U wr hF hlk haf A K hA hK
      have HA : Hid (A = putAll _ _ U) := hA
      clear hA
      simp [Aft, Region.binds] at haf
      obtain ⟨fb, fk, fs, oX, oY, oR, oL, oP, oQ, oS, oE, f0, f1, f2, f3, f4, f5, f6, f7, f8, f9, f12, s10, s11, m8, m9, d8_9⟩ := hF
      have g7 := f7 (by simp [haf])
      have e62 := rd HA.out 62 (by kernel_rfl) rfl
      refine ⟨?_⟩
      go_simp
      refine hK (upd U 19 (U 62)) _ _ ?_ ?_
      · rw [HA.out]; kernel_rfl
      · exact ⟨fb, fk, fs, oX, oY, oR, oL, oP, oQ, oS, oE, f0, f1, f2, f3, f4, f5, f6, f7, f8, f9, (fun _ => g7), s10, s11, m8, m9, d8_9⟩
  intro L U8 V8 hall hF
  have hbw0 := hbw
  clear hbw
  obtain ⟨hbw, fk, fs, oX, oY, oR, oL, oP, oQ, oS, oE, f0, f1, f2, f3, f4, f5, f6, f7, f8, f9, f12, s10, s11, m8, m9, d8_9⟩ := hF
  clear s10 s11 m8 m9
  have g0 := f0 (hall 0 (by decide))
  have g1 := f1 (hall 1 (by decide))
  have g2 := f2 (hall 2 (by decide))
  have g3 := f3 (hall 3 (by decide))
  have g4 := f4 (hall 4 (by decide))
  have g5 := f5 (hall 5 (by decide))
  have g6 := f6 (hall 6 (by decide))
  have g7 := f7 (hall 7 (by decide))
  have g8 := f8 (hall 8 (by decide))
  rw [hall 10 (by decide), cond_true] at g8
  have g9 := f9 (hall 9 (by decide))
  rw [hall 11 (by decide), cond_true] at g9
  have g12 := f12 (hall 12 (by decide))
  replace d8_9 := d8_9 (hall 8 (by decide)) (hall 9 (by decide))
  clear hall f0 f1 f2 f3 f4 f5 f6 f7 f8 f9 f12
  replace hX := hX.keepI fk
  replace hY := hY.keepI fk
  replace hI := hI.keepI fk
  replace hJ := hJ.keepI fk
  replace hL := hL.keepI fk
  replace hP := hP.keepI fk
  replace hQ := hQ.keepI fk
  replace hS := hS.keepI fk
  replace hE := hE.keepI fk
  obtain ⟨bO, csO, hpO, lbO, hcsO, oO, -⟩ := g8
  obtain ⟨xO, aO, nO, cO, hvO⟩ := RNum.shape g5
  have hO : RNum _ _ _ _ := g5
  rw [hvO] at hO
  rw [hvO] at hcsO
  injection hcsO with hcsO
  subst hcsO
  have ltO := oO.lt
  obtain ⟨bOo, csOo, hpOo, lbOo, hcsOo, oOo, -⟩ := g9
  obtain ⟨xOo, aOo, nOo, cOo, hvOo⟩ := RNum.shape g6
  have hOo : RNum _ _ _ _ := g6
  rw [hvOo] at hOo
  rw [hvOo] at hcsOo
  injection hcsOo with hcsOo
  subst hcsOo
  have ltOo := oOo.lt
  have neOOo : bO ≠ bOo := fun h => d8_9 (by rw [hpO, hpOo, h])
  clear d8_9
  have neXO : w.heap.size ≠ bO := Nat.ne_of_lt (Nat.lt_of_lt_of_le ltX lbO)
  have neYO : w.heap.size + 1 ≠ bO := Nat.ne_of_lt (Nat.lt_of_lt_of_le ltY lbO)
  have neRO : w.heap.size + 1 + 1 ≠ bO := Nat.ne_of_lt (Nat.lt_of_lt_of_le ltR lbO)
  have neLO : bL ≠ bO := Nat.ne_of_lt (Nat.lt_of_lt_of_le ltL lbO)
  have nePO : w4.heap.size ≠ bO := Nat.ne_of_lt (Nat.lt_of_lt_of_le ltP lbO)
  have neQO : w5.heap.size ≠ bO := Nat.ne_of_lt (Nat.lt_of_lt_of_le ltQ lbO)
  have neSO : w6.heap.size ≠ bO := Nat.ne_of_lt (Nat.lt_of_lt_of_le ltS lbO)
  have neEO : w7.heap.size ≠ bO := Nat.ne_of_lt (Nat.lt_of_lt_of_le ltE lbO)
  have lwO : w.heap.size ≤ bO := Nat.le_trans hbw0.size lbO
  have neXOo : w.heap.size ≠ bOo := Nat.ne_of_lt (Nat.lt_of_lt_of_le ltX lbOo)
  have neYOo : w.heap.size + 1 ≠ bOo := Nat.ne_of_lt (Nat.lt_of_lt_of_le ltY lbOo)
  have neROo : w.heap.size + 1 + 1 ≠ bOo := Nat.ne_of_lt (Nat.lt_of_lt_of_le ltR lbOo)
  have neLOo : bL ≠ bOo := Nat.ne_of_lt (Nat.lt_of_lt_of_le ltL lbOo)
  have nePOo : w4.heap.size ≠ bOo := Nat.ne_of_lt (Nat.lt_of_lt_of_le ltP lbOo)
  have neQOo : w5.heap.size ≠ bOo := Nat.ne_of_lt (Nat.lt_of_lt_of_le ltQ lbOo)
  have neSOo : w6.heap.size ≠ bOo := Nat.ne_of_lt (Nat.lt_of_lt_of_le ltS lbOo)
  have neEOo : w7.heap.size ≠ bOo := Nat.ne_of_lt (Nat.lt_of_lt_of_le ltE lbOo)
  have lwOo : w.heap.size ≤ bOo := Nat.le_trans hbw0.size lbOo
  clear lbO lbOo
  replace ltX := Nat.lt_of_lt_of_le ltX fs
  replace ltY := Nat.lt_of_lt_of_le ltY fs
  replace ltR := Nat.lt_of_lt_of_le ltR fs
  replace ltL := Nat.lt_of_lt_of_le ltL fs
  replace ltP := Nat.lt_of_lt_of_le ltP fs
  replace ltQ := Nat.lt_of_lt_of_le ltQ fs
  replace ltS := Nat.lt_of_lt_of_le ltS fs
  replace ltE := Nat.lt_of_lt_of_le ltE fs
  clear g0
  clear g1
  clear g2
  clear g3
  clear g4
  clear g5
  clear g6
  clear g7
  clear g12
  clear hbw0
  simp only [setM_some, setM_none, setM_nil]
  rw [hpO, hpOo]
  clear hpO hpOo hvO hvOo
  clear ltI oI
  clear ltJ oJ
  clear fk fs
  clear ltOo oOo
  clear hOo
  by_cases g0 : (x1.num * aD x1 y1).natAbs < lim
  · have H0 : Hid ((x1.num * aD x1 y1).natAbs < lim) := g0
    clear g0
    obtain ⟨Pc0, Pc1, Pq0, Pq1⟩ := oP.two
    go_wp2_with fail
    refine (rbig_any _ (x1.num * aD x1 y1) 1231 false _ hP (by decide) (big_no H0.out)).mono ?_
    rintro e w9 ⟨rfl, hb⟩
    clear Pc0 Pc1 Pq0 Pq1
    replace oX := oX.stay hb
    replace ltX := oX.lt
    replace oY := oY.stay hb
    replace ltY := oY.lt
    replace oR := oR.stay hb
    replace ltR := oR.lt
    replace oL := oL.stay hb
    replace ltL := oL.lt
    replace oP := oP.stay hb
    replace ltP := oP.lt
    replace oQ := oQ.stay hb
    replace ltQ := oQ.lt
    replace oS := oS.stay hb
    replace ltS := oS.lt
    replace oE := oE.stay hb
    replace ltE := oE.lt
    replace oO := oO.stay hb
    replace ltO := oO.lt
    replace hX := hX.below hb
    replace hY := hY.below hb
    replace hI := hI.below hb
    replace hJ := hJ.below hb
    replace hL := hL.below hb
    replace hP := hP.below hb
    replace hQ := hQ.below hb
    replace hS := hS.below hb
    replace hE := hE.below hb
    replace hO := hO.below hb
    replace hbw := hbw.step hb (Nat.le_refl _)
    clear hb
    by_cases g1 : (y1.num * aB x1 y1).natAbs < lim
    · have H1 : Hid ((y1.num * aB x1 y1).natAbs < lim) := g1
      clear g1
      obtain ⟨Qc0, Qc1, Qq0, Qq1⟩ := oQ.two
      go_wp2_with fail
      refine (rbig_any _ (y1.num * aB x1 y1) 1231 false _ hQ (by decide) (big_no H1.out)).mono ?_
      rintro e w10 ⟨rfl, hb⟩
      clear Qc0 Qc1 Qq0 Qq1
      replace oX := oX.stay hb
      replace ltX := oX.lt
      replace oY := oY.stay hb
      replace ltY := oY.lt
      replace oR := oR.stay hb
      replace ltR := oR.lt
      replace oL := oL.stay hb
      replace ltL := oL.lt
      replace oP := oP.stay hb
      replace ltP := oP.lt
      replace oQ := oQ.stay hb
      replace ltQ := oQ.lt
      replace oS := oS.stay hb
      replace ltS := oS.lt
      replace oE := oE.stay hb
      replace ltE := oE.lt
      replace oO := oO.stay hb
      replace ltO := oO.lt
      replace hX := hX.below hb
      replace hY := hY.below hb
      replace hI := hI.below hb
      replace hJ := hJ.below hb
      replace hL := hL.below hb
      replace hP := hP.below hb
      replace hQ := hQ.below hb
      replace hS := hS.below hb
      replace hE := hE.below hb
      replace hO := hO.below hb
      replace hbw := hbw.step hb (Nat.le_refl _)
      clear hb
      by_cases g2 : (aT x1 y1).natAbs < lim
      · have H2 : Hid ((aT x1 y1).natAbs < lim) := g2
        clear g2
        obtain ⟨Sc0, Sc1, Sq0, Sq1⟩ := oS.two
        go_wp2_with fail
        refine (rbig_any _ (aT x1 y1) 2463 false _ hS (by decide) (big_no H2.out)).mono ?_
        rintro e w11 ⟨rfl, hb⟩
        clear Sc0 Sc1 Sq0 Sq1
        replace oX := oX.stay hb
        replace ltX := oX.lt
        replace oY := oY.stay hb
        replace ltY := oY.lt
        replace oR := oR.stay hb
        replace ltR := oR.lt
        replace oL := oL.stay hb
        replace ltL := oL.lt
        replace oP := oP.stay hb
        replace ltP := oP.lt
        replace oQ := oQ.stay hb
        replace ltQ := oQ.lt
        replace oS := oS.stay hb
        replace ltS := oS.lt
        replace oE := oE.stay hb
        replace ltE := oE.lt
        replace oO := oO.stay hb
        replace ltO := oO.lt
        replace hX := hX.below hb
        replace hY := hY.below hb
        replace hI := hI.below hb
        replace hJ := hJ.below hb
        replace hL := hL.below hb
        replace hP := hP.below hb
        replace hQ := hQ.below hb
        replace hS := hS.below hb
        replace hE := hE.below hb
        replace hO := hO.below hb
        replace hbw := hbw.step hb (Nat.le_refl _)
        clear hb
        obtain ⟨Lc0, Lc1, Lq0, Lq1⟩ := oL.two
        obtain ⟨Oc0, Oc1, Oq0, Oq1⟩ := oO.two
        go_wp2_with fail
        refine (rMul_any _ _ (aB x1 y1) (aK x1 y1) _ 830 4956 _ hL hO (by decide) rfl).mono ?_
        rintro e w12 ⟨xV, aV, nV, cV, rfl, hV, hb⟩
        clear Lc0 Lc1 Lq0 Lq1
        clear Oc0 Oc1 Oq0 Oq1
        replace oX := oX.stay hb
        replace ltX := oX.lt
        replace oY := oY.stay hb
        replace ltY := oY.lt
        replace oR := oR.stay hb
        replace ltR := oR.lt
        replace oL := oL.stay hb
        replace ltL := oL.lt
        replace oP := oP.stay hb
        replace ltP := oP.lt
        replace oQ := oQ.stay hb
        replace ltQ := oQ.lt
        replace oS := oS.stay hb
        replace ltS := oS.lt
        replace oE := oE.stay hb
        replace ltE := oE.lt
        replace oO := oO.stay hb
        replace ltO := oO.lt
        replace hX := hX.below hb
        replace hY := hY.below hb
        replace hI := hI.below hb
        replace hJ := hJ.below hb
        replace hL := hL.below hb
        replace hP := hP.below hb
        replace hQ := hQ.below hb
        replace hS := hS.below hb
        replace hE := hE.below hb
        replace hO := hO.below hb
        replace hbw := hbw.step hb (Nat.le_refl _)
        clear hb
        by_cases g3 : (aB x1 y1 * aK x1 y1).natAbs < lim
        · have HA : Hid (aFits lim x1 y1) := ⟨H0.out, H1.out, H2.out, g3⟩
          have H3 : Hid ((aB x1 y1 * aK x1 y1).natAbs < lim) := g3
          clear g3
          go_wp2_with fail
          refine (rbig_any _ _ 5787 false _ hV (by decide) (big_no H3.out)).mono ?_
          rintro e w13 ⟨rfl, hb⟩
          replace oX := oX.stay hb
          replace ltX := oX.lt
          replace oY := oY.stay hb
          replace ltY := oY.lt
          replace oR := oR.stay hb
          replace ltR := oR.lt
          replace oL := oL.stay hb
          replace ltL := oL.lt
          replace oP := oP.stay hb
          replace ltP := oP.lt
          replace oQ := oQ.stay hb
          replace ltQ := oQ.lt
          replace oS := oS.stay hb
          replace ltS := oS.lt
          replace oE := oE.stay hb
          replace ltE := oE.lt
          replace oO := oO.stay hb
          replace ltO := oO.lt
          replace hX := hX.below hb
          replace hY := hY.below hb
          replace hI := hI.below hb
          replace hJ := hJ.below hb
          replace hL := hL.below hb
          replace hP := hP.below hb
          replace hQ := hQ.below hb
          replace hS := hS.below hb
          replace hE := hE.below hb
          replace hO := hO.below hb
          replace hV := hV.below hb
          replace hbw := hbw.step hb (Nat.le_refl _)
          clear hb
          obtain ⟨Xc0, Xc1, Xc2, Xc3⟩ := oX.four
          obtain ⟨Xq0, Xq1, Xq2, Xq3⟩ := oX.frozen4
          obtain ⟨Yc0, Yc1, Yc2, Yc3⟩ := oY.four
          obtain ⟨Yq0, Yq1, Yq2, Yq3⟩ := oY.frozen4
          go_wp2_with fail
          refine (rqplus_any _ _ x1 y1 _ hX.val hY.val).mono ?_
          rintro e w14 ⟨z1, z2, z3, z4, z5, z6, z7, z8, rfl, hZ, hb⟩
          clear Xc0 Xc1 Xc2 Xc3 Xq0 Xq1 Xq2 Xq3
          clear Yc0 Yc1 Yc2 Yc3 Yq0 Yq1 Yq2 Yq3
          replace oX := oX.stay hb
          replace ltX := oX.lt
          replace oY := oY.stay hb
          replace ltY := oY.lt
          replace oR := oR.stay hb
          replace ltR := oR.lt
          replace oL := oL.stay hb
          replace ltL := oL.lt
          replace oP := oP.stay hb
          replace ltP := oP.lt
          replace oQ := oQ.stay hb
          replace ltQ := oQ.lt
          replace oS := oS.stay hb
          replace ltS := oS.lt
          replace oE := oE.stay hb
          replace ltE := oE.lt
          replace oO := oO.stay hb
          replace ltO := oO.lt
          replace hX := hX.below hb
          replace hY := hY.below hb
          replace hI := hI.below hb
          replace hJ := hJ.below hb
          replace hL := hL.below hb
          replace hP := hP.below hb
          replace hQ := hQ.below hb
          replace hS := hS.below hb
          replace hE := hE.below hb
          replace hO := hO.below hb
          replace hV := hV.below hb
          replace hbw := hbw.step hb (Nat.le_refl _)
          clear hb
          obtain ⟨Rc0, Rc1, Rc2, Rc3⟩ := oR.four
          obtain ⟨Rq0, Rq1, Rq2, Rq3⟩ := oR.frozen4
          try simp only []
          try go_at_K
          repeat (first | go_values | go_skip | go_guarded | go_step | go_upon)
          refine bodyPost_ret (v := (.tuple #[.agg #[.bool z1, .slice z2 z3 z4, .bool z5, .slice z6 z7 z8], .int .i64 0])) (by simp [results, Try.results75, go_sem, Rc0, Rc1, Rc2, Rc3]) rfl ?_
          refine ⟨_, _, _, _, _, _, _, _, by rw [addC_yes HA.out], ?_, below_store4 hbw (by omega) _ _ _ _⟩
          rw [addZ_yes HA.out]
          exact (hZ.small (sum_small HA.out).1 (sum_small HA.out).2).keepI (keepI_four (noI_slice _ _ _) (noI_slice _ _ _) oR _ _ _ _ _ _ _ _)
        · have HN : Hid (¬ aFits lim x1 y1) := fun h => g3 h.2.2.2
          have HG1 : Hid (¬ (aB x1 y1 * aK x1 y1).natAbs < lim) := g3
          clear g3
          go_wp2_with fail
          refine (rbig_any _ _ 5787 true _ hV (by decide) (big_yes HG1.out)).mono ?_
          rintro e w13 ⟨rfl, hb⟩
          replace oX := oX.stay hb
          replace ltX := oX.lt
          replace oY := oY.stay hb
          replace ltY := oY.lt
          replace oR := oR.stay hb
          replace ltR := oR.lt
          replace oL := oL.stay hb
          replace ltL := oL.lt
          replace oP := oP.stay hb
          replace ltP := oP.lt
          replace oQ := oQ.stay hb
          replace ltQ := oQ.lt
          replace oS := oS.stay hb
          replace ltS := oS.lt
          replace oE := oE.stay hb
          replace ltE := oE.lt
          replace oO := oO.stay hb
          replace ltO := oO.lt
          replace hX := hX.below hb
          replace hY := hY.below hb
          replace hI := hI.below hb
          replace hJ := hJ.below hb
          replace hL := hL.below hb
          replace hP := hP.below hb
          replace hQ := hQ.below hb
          replace hS := hS.below hb
          replace hE := hE.below hb
          replace hO := hO.below hb
          replace hV := hV.below hb
          replace hbw := hbw.step hb (Nat.le_refl _)
          clear hb
          obtain ⟨Rc0, Rc1, Rc2, Rc3⟩ := oR.four
          obtain ⟨Rq0, Rq1, Rq2, Rq3⟩ := oR.frozen4
          try simp only []
          try go_at_K
          repeat (first | go_values | go_skip | go_guarded | go_step | go_upon)
          refine bodyPost_ret (v := (.tuple #[.agg #[.bool false, .slice none 0 0, .bool false, .slice none 0 0], .int .i64 11])) (by simp [results, Try.results75, go_sem, Rc0, Rc1, Rc2, Rc3]) rfl ?_
          refine ⟨_, _, _, _, _, _, _, _, by rw [addC_no HN.out], ?_, ?_⟩
          · rw [addZ_no HN.out]; exact QRP.zero
          · first | exact hbw | exact below_store4 hbw (by omega) _ _ _ _
      · have HN : Hid (¬ aFits lim x1 y1) := fun h => g2 h.2.2.1
        have HG1 : Hid (¬ (aT x1 y1).natAbs < lim) := g2
        clear g2
        obtain ⟨Sc0, Sc1, Sq0, Sq1⟩ := oS.two
        go_wp2_with fail
        refine (rbig_any _ (aT x1 y1) 2463 true _ hS (by decide) (big_yes HG1.out)).mono ?_
        rintro e w11 ⟨rfl, hb⟩
        clear Sc0 Sc1 Sq0 Sq1
        replace oX := oX.stay hb
        replace ltX := oX.lt
        replace oY := oY.stay hb
        replace ltY := oY.lt
        replace oR := oR.stay hb
        replace ltR := oR.lt
        replace oL := oL.stay hb
        replace ltL := oL.lt
        replace oP := oP.stay hb
        replace ltP := oP.lt
        replace oQ := oQ.stay hb
        replace ltQ := oQ.lt
        replace oS := oS.stay hb
        replace ltS := oS.lt
        replace oE := oE.stay hb
        replace ltE := oE.lt
        replace oO := oO.stay hb
        replace ltO := oO.lt
        replace hX := hX.below hb
        replace hY := hY.below hb
        replace hI := hI.below hb
        replace hJ := hJ.below hb
        replace hL := hL.below hb
        replace hP := hP.below hb
        replace hQ := hQ.below hb
        replace hS := hS.below hb
        replace hE := hE.below hb
        replace hO := hO.below hb
        replace hbw := hbw.step hb (Nat.le_refl _)
        clear hb
        obtain ⟨Rc0, Rc1, Rc2, Rc3⟩ := oR.four
        obtain ⟨Rq0, Rq1, Rq2, Rq3⟩ := oR.frozen4
        try simp only []
        try go_at_K
        repeat (first | go_values | go_skip | go_guarded | go_step | go_upon)
        refine bodyPost_ret (v := (.tuple #[.agg #[.bool false, .slice none 0 0, .bool false, .slice none 0 0], .int .i64 11])) (by simp [results, Try.results75, go_sem, Rc0, Rc1, Rc2, Rc3]) rfl ?_
        refine ⟨_, _, _, _, _, _, _, _, by rw [addC_no HN.out], ?_, ?_⟩
        · rw [addZ_no HN.out]; exact QRP.zero
        · first | exact hbw | exact below_store4 hbw (by omega) _ _ _ _
    · have HN : Hid (¬ aFits lim x1 y1) := fun h => g1 h.2.1
      have HG1 : Hid (¬ (y1.num * aB x1 y1).natAbs < lim) := g1
      clear g1
      obtain ⟨Qc0, Qc1, Qq0, Qq1⟩ := oQ.two
      go_wp2_with fail
      refine (rbig_any _ (y1.num * aB x1 y1) 1231 true _ hQ (by decide) (big_yes HG1.out)).mono ?_
      rintro e w10 ⟨rfl, hb⟩
      clear Qc0 Qc1 Qq0 Qq1
      replace oX := oX.stay hb
      replace ltX := oX.lt
      replace oY := oY.stay hb
      replace ltY := oY.lt
      replace oR := oR.stay hb
      replace ltR := oR.lt
      replace oL := oL.stay hb
      replace ltL := oL.lt
      replace oP := oP.stay hb
      replace ltP := oP.lt
      replace oQ := oQ.stay hb
      replace ltQ := oQ.lt
      replace oS := oS.stay hb
      replace ltS := oS.lt
      replace oE := oE.stay hb
      replace ltE := oE.lt
      replace oO := oO.stay hb
      replace ltO := oO.lt
      replace hX := hX.below hb
      replace hY := hY.below hb
      replace hI := hI.below hb
      replace hJ := hJ.below hb
      replace hL := hL.below hb
      replace hP := hP.below hb
      replace hQ := hQ.below hb
      replace hS := hS.below hb
      replace hE := hE.below hb
      replace hO := hO.below hb
      replace hbw := hbw.step hb (Nat.le_refl _)
      clear hb
      obtain ⟨Rc0, Rc1, Rc2, Rc3⟩ := oR.four
      obtain ⟨Rq0, Rq1, Rq2, Rq3⟩ := oR.frozen4
      try simp only []
      try go_at_K
      repeat (first | go_values | go_skip | go_guarded | go_step | go_upon)
      refine bodyPost_ret (v := (.tuple #[.agg #[.bool false, .slice none 0 0, .bool false, .slice none 0 0], .int .i64 11])) (by simp [results, Try.results75, go_sem, Rc0, Rc1, Rc2, Rc3]) rfl ?_
      refine ⟨_, _, _, _, _, _, _, _, by rw [addC_no HN.out], ?_, ?_⟩
      · rw [addZ_no HN.out]; exact QRP.zero
      · first | exact hbw | exact below_store4 hbw (by omega) _ _ _ _
  · have HN : Hid (¬ aFits lim x1 y1) := fun h => g0 h.1
    have HG1 : Hid (¬ (x1.num * aD x1 y1).natAbs < lim) := g0
    clear g0
    obtain ⟨Pc0, Pc1, Pq0, Pq1⟩ := oP.two
    go_wp2_with fail
    refine (rbig_any _ (x1.num * aD x1 y1) 1231 true _ hP (by decide) (big_yes HG1.out)).mono ?_
    rintro e w9 ⟨rfl, hb⟩
    clear Pc0 Pc1 Pq0 Pq1
    replace oX := oX.stay hb
    replace ltX := oX.lt
    replace oY := oY.stay hb
    replace ltY := oY.lt
    replace oR := oR.stay hb
    replace ltR := oR.lt
    replace oL := oL.stay hb
    replace ltL := oL.lt
    replace oP := oP.stay hb
    replace ltP := oP.lt
    replace oQ := oQ.stay hb
    replace ltQ := oQ.lt
    replace oS := oS.stay hb
    replace ltS := oS.lt
    replace oE := oE.stay hb
    replace ltE := oE.lt
    replace oO := oO.stay hb
    replace ltO := oO.lt
    replace hX := hX.below hb
    replace hY := hY.below hb
    replace hI := hI.below hb
    replace hJ := hJ.below hb
    replace hL := hL.below hb
    replace hP := hP.below hb
    replace hQ := hQ.below hb
    replace hS := hS.below hb
    replace hE := hE.below hb
    replace hO := hO.below hb
    replace hbw := hbw.step hb (Nat.le_refl _)
    clear hb
    obtain ⟨Rc0, Rc1, Rc2, Rc3⟩ := oR.four
    obtain ⟨Rq0, Rq1, Rq2, Rq3⟩ := oR.frozen4
    try simp only []
    try go_at_K
    repeat (first | go_values | go_skip | go_guarded | go_step | go_upon)
    refine bodyPost_ret (v := (.tuple #[.agg #[.bool false, .slice none 0 0, .bool false, .slice none 0 0], .int .i64 11])) (by simp [results, Try.results75, go_sem, Rc0, Rc1, Rc2, Rc3]) rfl ?_
    refine ⟨_, _, _, _, _, _, _, _, by rw [addC_no HN.out], ?_, ?_⟩
    · rw [addZ_no HN.out]; exact QRP.zero
    · first | exact hbw | exact below_store4 hbw (by omega) _ _ _ _

end Go.Proofs.Ytidpbdhhbeaijaa
