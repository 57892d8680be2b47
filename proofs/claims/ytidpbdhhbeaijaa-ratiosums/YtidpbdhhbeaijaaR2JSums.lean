/- Contracts of suretyref02's Show, Neg, Cmp, Floor, Lowest and Of; they prove no statement of the seat. -/
import Derived.Test.YtidpbdhhbeaijaaR1JSums
import Derived.Test.YtidpbdhhbeaijaaQ6JSums
import Derived.Test.YtidpbdhhbeaijaaRDivJSums
import Derived.Test.YtidpbdhhbeaijaaRMulJSums
import Derived.Test.YtidpbdhhbeaijaaShowsJSums
namespace Go.Proofs.Ytidpbdhhbeaijaa
open Go.RowKit

theorem rnum_neg {w : World} {s : Bool} {a : Option Addr} {n c L : Nat} {z : Int} (h : RNum w (.agg #[.bool s, .slice a n c]) z L) : s = decide (z < 0) := by
  obtain ⟨neg, ds, ⟨ao, cap, he, h1, h2, h3, h4, h5, h6, h7⟩, hz, _⟩ := h
  cases he
  cases s with
  | false => rw [hz]; simp [sv]
  | true =>
    have hp : 0 < val 10 ds := sv_pos10 h6 h7 rfl
    rw [hz]
    simp [sv]
    omega

set_option maxRecDepth 20000 in
set_option maxHeartbeats 8000000 in
theorem rshow_any (vX : Value) (q : Rat) (N : Nat) (w : World) (hX : QRV w vX q N) (hN : 20 ≤ N ∧ N ≤ 20000) (hz' : q.num.natAbs < lim ∧ (q.den : Int).natAbs < lim) :
    Calls Try.prog 27 #[vX] w fun e w' => ∃ S, e = .returned (.string S) ∧ TextQ S q ∧ Below w.heap.size w w' := by
  obtain ⟨xX, aX, nX, cX, yX, eX, mX, fX, rfl, hX⟩ := hX
  have HN : Hid (20 ≤ N ∧ N ≤ 20000) := hN
  have HZ : Hid (q.num.natAbs < lim ∧ (q.den : Int).natAbs < lim) := hz'
  clear hN hz'
  have oX := (Blk.new w 35 #[.bool xX, .slice aX nX cX, .bool yX, .slice eX mX fX])
  have hbw : Below w.heap.size w (w.alloc (.cells #[.bool xX, .slice aX nX cX, .bool yX, .slice eX mX fX] 35 (0, 0))) := by go_grown
  replace hX := hX.below hbw
  have ltX := oX.lt
  go_enter Try.func27, Try.ntmps27
  obtain ⟨Xc0, Xc1, Xc2, Xc3⟩ := oX.four
  obtain ⟨Xq0, Xq1, Xq2, Xq3⟩ := oX.frozen4
  go_wp2_with fail
  refine (low_any _ q N _ hX.val HN.out.1).mono ?_
  rintro e w1 ⟨u1, u2, u3, u4, rfl, hLo, hb⟩
  clear Xc0 Xc1 Xc2 Xc3 Xq0 Xq1 Xq2 Xq3
  replace oX := oX.stay hb
  replace ltX := oX.lt
  replace hX := hX.below hb
  replace hbw := hbw.step hb (Nat.le_refl _)
  clear hb
  go_wp2_with fail
  refine (one_any _).mono ?_
  rintro e w2 ⟨o1, o2, o3, o4, rfl, hOn, hb⟩
  replace oX := oX.stay hb
  replace ltX := oX.lt
  replace hX := hX.below hb
  replace hLo := hLo.below hb
  replace hbw := hbw.step hb (Nat.le_refl _)
  clear hb
  by_cases hd : q.den = 1
  · have HD : Hid (q.den = 1) := hd
    have HC : Hid (((q.den : Int) - 1).sign = 0) := by show _ = _; rw [hd]; rfl
    clear hd
    go_wp2_with fail
    refine (rCmp_s _ _ (q.den : Int) 1 0 N 20 _ hLo hOn (by have := HN.out.2; omega) (by decide) HC.out).mono ?_
    rintro e w3 ⟨rfl, hb⟩
    replace oX := oX.stay hb
    replace ltX := oX.lt
    replace hX := hX.below hb
    replace hLo := hLo.below hb
    replace hOn := hOn.below hb
    replace hbw := hbw.step hb (Nat.le_refl _)
    clear hb
    obtain ⟨Xc0, Xc1, Xc2, Xc3⟩ := oX.four
    obtain ⟨Xq0, Xq1, Xq2, Xq3⟩ := oX.frozen4
    go_wp2_with fail
    refine (show_a _ q.num N _ hX.1 HN.out.2).mono ?_
    rintro e w4 ⟨S, rfl, hS, hb⟩
    clear Xc0 Xc1 Xc2 Xc3 Xq0 Xq1 Xq2 Xq3
    replace oX := oX.stay hb
    replace ltX := oX.lt
    replace hX := hX.below hb
    replace hLo := hLo.below hb
    replace hOn := hOn.below hb
    replace hbw := hbw.step hb (Nat.le_refl _)
    clear hb
    go_wp2
    refine bodyPost_ret (v := (.string S)) (by simp [results, Try.results27, go_sem]) rfl ?_
    exact ⟨S, rfl, Or.inl ⟨HD.out, hS⟩, hbw⟩
  · have HD : Hid (q.den ≠ 1) := hd
    have HC : Hid (((q.den : Int) - 1).sign = 1) := Int.sign_eq_one_of_pos (by have := q.den_nz; omega)
    clear hd
    go_wp2_with fail
    refine (rCmp_s _ _ (q.den : Int) 1 1 N 20 _ hLo hOn (by have := HN.out.2; omega) (by decide) HC.out).mono ?_
    rintro e w3 ⟨rfl, hb⟩
    replace oX := oX.stay hb
    replace ltX := oX.lt
    replace hX := hX.below hb
    replace hLo := hLo.below hb
    replace hOn := hOn.below hb
    replace hbw := hbw.step hb (Nat.le_refl _)
    clear hb
    obtain ⟨hU, l, hl, hor⟩ := hX
    obtain rfl : l = q.den := hor.resolve_right (fun k => HD.out k.2)
    clear hor
    go_wp2
    refine wp_region_M (by kernel_rfl) [2, 11, 12, 13, 14, 15, 16, 17, 18] [none, none, some 2, none, none, none, none, none, none, none, none, some 11, some 12, some 13, some 14, some 15, some 16, some 17, some 18] (fun U => by kernel_rfl) (fun L U wr => Below w.heap.size w wr ∧ KeepI w3 wr ∧ w3.heap.size ≤ wr.heap.size ∧ Blk 35 wr (w.heap.size) #[.bool xX, .slice aX nX cX, .bool yX, .slice eX mX fX] ∧ (L 0 = true → IS (.pointer (some ⟨w.heap.size, 0, none⟩)) (U 11) wr) ∧ (L 1 = true → IS (.agg #[.bool xX, .slice aX nX cX]) (U 12) wr) ∧ (L 2 = true → TXT q.num (U 13) wr) ∧ (L 3 = true → TX1 q.num (U 14) wr) ∧ (L 4 = true → IS (.pointer (some ⟨w.heap.size, 2, none⟩)) (U 15) wr) ∧ (L 5 = true → IS (.agg #[.bool yX, .slice eX mX fX]) (U 16) wr) ∧ (L 6 = true → TXT q.den (U 17) wr) ∧ (L 7 = true → TXQ q (U 18) wr) ∧ (L 8 = true → TXQ q (U 2) wr)) (by kernel_rfl) ?_ ?_ ?_
    · exact fun U => ⟨hbw.drew, KeepI.below (Below.refl _ _).drew, Nat.le_refl _, oX.drew, (fun h => by cases h), (fun h => by cases h), (fun h => by cases h), (fun h => by cases h), (fun h => by cases h), (fun h => by cases h), (fun h => by cases h), (fun h => by cases h), (fun h => by cases h)⟩
    · refine StepsU.run rfl ?_ ?_
      · intro L U wr hF hlk haf A K hA hK
        have HA : Hid (A = putAll _ _ U) := hA
        clear hA
        simp [Aft, Region.binds] at haf
        obtain ⟨fb, fk, fs, oX, f0, f1, f2, f3, f4, f5, f6, f7, f8⟩ := hF
        have e1 : A.tmps[1]? = some (.pointer (some ⟨w.heap.size, 0, none⟩)) := by rw [HA.out]; kernel_rfl
        refine ⟨?_⟩
        go_simp
        refine hK (upd U 11 (.pointer (some ⟨w.heap.size, 0, none⟩))) _ _ ?_ ?_
        · rw [HA.out]; kernel_rfl
        · exact ⟨fb, fk, fs, oX, (fun _ => rfl), f1, f2, f3, f4, f5, f6, f7, f8⟩
      refine StepsU.run rfl ?_ ?_
      · intro L U wr hF hlk haf A K hA hK
        have HA : Hid (A = putAll _ _ U) := hA
        clear hA
        simp [Aft, Region.binds] at haf
        obtain ⟨fb, fk, fs, oX, f0, f1, f2, f3, f4, f5, f6, f7, f8⟩ := hF
        have g0 := f0 (by simp [haf])
        have e11 := rd HA.out 11 (by kernel_rfl) g0
        obtain ⟨c0, c1, c2, c3⟩ := oX.four
        refine ⟨?_⟩
        go_simp
        refine hK (upd U 12 (.agg #[.bool xX, .slice aX nX cX])) _ _ ?_ ?_
        · rw [HA.out]; kernel_rfl
        · exact ⟨fb, fk, fs, oX, f0, (fun _ => rfl), f2, f3, f4, f5, f6, f7, f8⟩
      refine StepsU.run rfl ?_ ?_
      · intro L U wr hF hlk haf A K hA hK
        have HA : Hid (A = putAll _ _ U) := hA
        clear hA
        simp [Aft, Region.binds] at haf
        obtain ⟨fb, fk, fs, oX, f0, f1, f2, f3, f4, f5, f6, f7, f8⟩ := hF
        have g1 := f1 (by simp [haf])
        have e12 := rd HA.out 12 (by kernel_rfl) g1
        refine ⟨?_⟩
        go_simp
        refine (show_a _ q.num N _ (hU.keepI fk) HN.out.2).mono ?_
        rintro e w1 ⟨S, rfl, hS, hb⟩
        go_simp
        refine hK (upd U 13 (.string S)) _ _ ?_ ?_
        · rw [HA.out]; kernel_rfl
        · exact ⟨(fb.step hb (Nat.le_refl _)), (fk.trans (KeepI.below hb)), (Nat.le_trans fs hb.size), (oX.stay hb), (mv mo_is (KeepI.below hb) f0), (mv mo_is (KeepI.below hb) f1), (fun _ => ⟨S, rfl, hS⟩), (mv mo_tx1 (KeepI.below hb) f3), (mv mo_is (KeepI.below hb) f4), (mv mo_is (KeepI.below hb) f5), (mv mo_txt (KeepI.below hb) f6), (mv mo_txq (KeepI.below hb) f7), (mv mo_txq (KeepI.below hb) f8)⟩
      refine StepsU.run rfl ?_ ?_
      · intro L U wr hF hlk haf A K hA hK
        have HA : Hid (A = putAll _ _ U) := hA
        clear hA
        simp [Aft, Region.binds] at haf
        obtain ⟨fb, fk, fs, oX, f0, f1, f2, f3, f4, f5, f6, f7, f8⟩ := hF
        have g2 := f2 (by simp [haf])
        obtain ⟨S, hS, hT⟩ := g2
        have zS : ¬ 9223372036854775807 < S.size + 1 := by have := hT.size HZ.out.1; omega
        have e13 := rd HA.out 13 (by kernel_rfl) hS
        refine ⟨?_⟩
        go_simp
        refine hK (upd U 14 (.string (S ++ ⟨#[47]⟩))) _ _ ?_ ?_
        · rw [HA.out]; kernel_rfl
        · exact ⟨fb, fk, fs, oX, f0, f1, f2, (fun _ => ⟨S, rfl, hT⟩), f4, f5, f6, f7, f8⟩
      refine StepsU.run rfl ?_ ?_
      · intro L U wr hF hlk haf A K hA hK
        have HA : Hid (A = putAll _ _ U) := hA
        clear hA
        simp [Aft, Region.binds] at haf
        obtain ⟨fb, fk, fs, oX, f0, f1, f2, f3, f4, f5, f6, f7, f8⟩ := hF
        have e1 : A.tmps[1]? = some (.pointer (some ⟨w.heap.size, 0, none⟩)) := by rw [HA.out]; kernel_rfl
        refine ⟨?_⟩
        go_simp
        refine hK (upd U 15 (.pointer (some ⟨w.heap.size, 2, none⟩))) _ _ ?_ ?_
        · rw [HA.out]; kernel_rfl
        · exact ⟨fb, fk, fs, oX, f0, f1, f2, f3, (fun _ => rfl), f5, f6, f7, f8⟩
      refine StepsU.run rfl ?_ ?_
      · intro L U wr hF hlk haf A K hA hK
        have HA : Hid (A = putAll _ _ U) := hA
        clear hA
        simp [Aft, Region.binds] at haf
        obtain ⟨fb, fk, fs, oX, f0, f1, f2, f3, f4, f5, f6, f7, f8⟩ := hF
        have g4 := f4 (by simp [haf])
        have e15 := rd HA.out 15 (by kernel_rfl) g4
        obtain ⟨c0, c1, c2, c3⟩ := oX.four
        refine ⟨?_⟩
        go_simp
        refine hK (upd U 16 (.agg #[.bool yX, .slice eX mX fX])) _ _ ?_ ?_
        · rw [HA.out]; kernel_rfl
        · exact ⟨fb, fk, fs, oX, f0, f1, f2, f3, f4, (fun _ => rfl), f6, f7, f8⟩
      refine StepsU.run rfl ?_ ?_
      · intro L U wr hF hlk haf A K hA hK
        have HA : Hid (A = putAll _ _ U) := hA
        clear hA
        simp [Aft, Region.binds] at haf
        obtain ⟨fb, fk, fs, oX, f0, f1, f2, f3, f4, f5, f6, f7, f8⟩ := hF
        have g5 := f5 (by simp [haf])
        have e16 := rd HA.out 16 (by kernel_rfl) g5
        refine ⟨?_⟩
        go_simp
        refine (show_a _ q.den N _ (hl.keepI fk) HN.out.2).mono ?_
        rintro e w1 ⟨S, rfl, hS, hb⟩
        go_simp
        refine hK (upd U 17 (.string S)) _ _ ?_ ?_
        · rw [HA.out]; kernel_rfl
        · exact ⟨(fb.step hb (Nat.le_refl _)), (fk.trans (KeepI.below hb)), (Nat.le_trans fs hb.size), (oX.stay hb), (mv mo_is (KeepI.below hb) f0), (mv mo_is (KeepI.below hb) f1), (mv mo_txt (KeepI.below hb) f2), (mv mo_tx1 (KeepI.below hb) f3), (mv mo_is (KeepI.below hb) f4), (mv mo_is (KeepI.below hb) f5), (fun _ => ⟨S, rfl, hS⟩), (mv mo_txq (KeepI.below hb) f7), (mv mo_txq (KeepI.below hb) f8)⟩
      refine StepsU.run rfl ?_ ?_
      · intro L U wr hF hlk haf A K hA hK
        have HA : Hid (A = putAll _ _ U) := hA
        clear hA
        simp [Aft, Region.binds] at haf
        obtain ⟨fb, fk, fs, oX, f0, f1, f2, f3, f4, f5, f6, f7, f8⟩ := hF
        have g3 := f3 (by simp [haf])
        have g6 := f6 (by simp [haf])
        obtain ⟨S, hS, hT⟩ := g3
        obtain ⟨S2, hS2, hT2⟩ := g6
        have zS : ¬ 9223372036854775807 < S.size + 1 + S2.size := by have := hT.size HZ.out.1; have := hT2.size HZ.out.2; omega
        have e14 := rd HA.out 14 (by kernel_rfl) hS
        have e17 := rd HA.out 17 (by kernel_rfl) hS2
        refine ⟨?_⟩
        go_simp
        refine hK (upd U 18 (.string (S ++ ⟨#[47]⟩ ++ S2))) _ _ ?_ ?_
        · rw [HA.out]; kernel_rfl
        · exact ⟨fb, fk, fs, oX, f0, f1, f2, f3, f4, f5, f6, (fun _ => ⟨_, rfl, Or.inr ⟨HD.out, S, S2, hT, hT2, rfl⟩⟩), f8⟩
      refine StepsU.run rfl ?_ StepsU.nil
      · intro L U wr hF hlk haf A K hA hK
        have HA : Hid (A = putAll _ _ U) := hA
        clear hA
        simp [Aft, Region.binds] at haf
        obtain ⟨fb, fk, fs, oX, f0, f1, f2, f3, f4, f5, f6, f7, f8⟩ := hF
        have g7 := f7 (by simp [haf])
        have e18 := rd HA.out 18 (by kernel_rfl) rfl
        refine ⟨?_⟩
        go_simp
        refine hK (upd U 2 (U 18)) _ _ ?_ ?_
        · rw [HA.out]; kernel_rfl
        · exact ⟨fb, fk, fs, oX, f0, f1, f2, f3, f4, f5, f6, f7, (fun _ => g7)⟩
    intro L U4 V4 hall hF
    have hbw0 := hbw
    clear hbw
    obtain ⟨hbw, fk, fs, oX, f0, f1, f2, f3, f4, f5, f6, f7, f8⟩ := hF
    have g0 := f0 (hall 0 (by decide))
    have g1 := f1 (hall 1 (by decide))
    have g2 := f2 (hall 2 (by decide))
    have g3 := f3 (hall 3 (by decide))
    have g4 := f4 (hall 4 (by decide))
    have g5 := f5 (hall 5 (by decide))
    have g6 := f6 (hall 6 (by decide))
    have g7 := f7 (hall 7 (by decide))
    have g8 := f8 (hall 8 (by decide))
    clear hall f0 f1 f2 f3 f4 f5 f6 f7 f8
    replace hU := hU.keepI fk
    replace hl := hl.keepI fk
    replace ltX := Nat.lt_of_lt_of_le ltX fs
    clear g0
    clear g1
    clear g2
    clear g3
    clear g4
    clear g5
    clear g6
    clear g7
    clear hbw0
    simp only [setM_some, setM_none, setM_nil]
    clear fk fs
    obtain ⟨S, hS, hT⟩ := g8
    try simp only []
    try go_at_K
    repeat (first | go_values | go_skip | go_guarded | go_step | go_upon)
    refine bodyPost_ret (v := (.string S)) (by simp [results, Try.results27, go_sem, hS]) rfl ?_
    exact ⟨S, rfl, hT, hbw⟩

set_option maxRecDepth 20000 in
set_option maxHeartbeats 8000000 in
theorem rqneg_any (vX : Value) (q : Rat) (N : Nat) (w : World) (hX : QRV w vX q N) (hN : N ≤ 10000) :
    Calls Try.prog 28 #[vX] w fun e w' => ∃ s1 s2 s3 s4 s5 s6 s7 s8, e = .returned (.agg #[.bool s1, .slice s2 s3 s4, .bool s5, .slice s6 s7 s8]) ∧ QRP w' s1 s2 s3 s4 s5 s6 s7 s8 (-q) (N) ∧ Below w.heap.size w w' := by
  obtain ⟨xX, aX, nX, cX, yX, eX, mX, fX, rfl, hX⟩ := hX
  have HN : Hid (N ≤ 10000) := hN
  clear hN
  have oX := ((Blk.new w 35 #[.bool xX, .slice aX nX cX, .bool yX, .slice eX mX fX]).alloc (.cells #[.bool false, .slice none 0 0, .bool false, .slice none 0 0] 35 (0, 0)))
  have oR := (Blk.new (w.alloc (.cells #[.bool xX, .slice aX nX cX, .bool yX, .slice eX mX fX] 35 (0, 0))) 35 #[.bool false, .slice none 0 0, .bool false, .slice none 0 0])
  simp only [World.size_alloc] at oR
  have hbw : Below w.heap.size w ((w.alloc (.cells #[.bool xX, .slice aX nX cX, .bool yX, .slice eX mX fX] 35 (0, 0))).alloc (.cells #[.bool false, .slice none 0 0, .bool false, .slice none 0 0] 35 (0, 0))) := by go_grown
  replace hX := hX.below hbw
  have ltX := oX.lt
  have ltR := oR.lt
  go_enter Try.func28, Try.ntmps28
  go_wp2
  generalize ((w.alloc (.cells #[.bool xX, .slice aX nX cX, .bool yX, .slice eX mX fX] 35 (0, 0))).alloc (.cells #[.bool false, .slice none 0 0, .bool false, .slice none 0 0] 35 (0, 0))) = W0 at hbw oX oR ltX ltR hX ⊢
  have rR := oR
  clear oR
  have geR : w.heap.size ≤ w.heap.size + 1 := by omega
  have neRX : w.heap.size + 1 ≠ w.heap.size := by omega
  refine wp_region_M (by kernel_rfl) [3, 4, 5, 6, 7, 8] [none, none, none, some 3, some 4, some 5, some 6, some 7, some 8] (fun U => by kernel_rfl) (fun L U wr => Below w.heap.size w wr ∧ KeepI W0 wr ∧ W0.heap.size ≤ wr.heap.size ∧ Blk 35 wr (w.heap.size) #[.bool xX, .slice aX nX cX, .bool yX, .slice eX mX fX] ∧ BlkV 35 wr (w.heap.size + 1) (bif L 6 then U 8 else .agg #[.bool false, .slice none 0 0, .bool false, .slice none 0 0]) ∧ (L 0 = true → IS (.pointer (some ⟨w.heap.size, 0, none⟩)) (U 3) wr) ∧ (L 1 = true → IS (.agg #[.bool xX, .slice aX nX cX]) (U 4) wr) ∧ (L 2 = true → RNM (-q.num) N (U 5) wr) ∧ (L 3 = true → IS (.pointer (some ⟨w.heap.size, 2, none⟩)) (U 6) wr) ∧ (L 4 = true → IS (.agg #[.bool yX, .slice eX mX fX]) (U 7) wr) ∧ (L 5 = true → RRT (-q) N (U 8) wr) ∧ (L 6 = true → L 5 = true)) (by kernel_rfl) ?_ ?_ ?_
  · exact fun U => ⟨hbw.drew, KeepI.below (Below.refl _ _).drew, Nat.le_refl _, oX.drew, ⟨_, rfl, rR.drew⟩, (fun h => by cases h), (fun h => by cases h), (fun h => by cases h), (fun h => by cases h), (fun h => by cases h), (fun h => by cases h), (fun h => by cases h)⟩
  · refine StepsU.run rfl ?_ ?_
    · intro L U wr hF hlk haf A K hA hK
      have HA : Hid (A = putAll _ _ U) := hA
      clear hA
      simp [Aft, Region.binds] at haf
      obtain ⟨fb, fk, fs, oX, rR, f0, f1, f2, f3, f4, f5, s6⟩ := hF
      have e1 : A.tmps[1]? = some (.pointer (some ⟨w.heap.size, 0, none⟩)) := by rw [HA.out]; kernel_rfl
      refine ⟨?_⟩
      go_simp
      refine hK (upd U 3 (.pointer (some ⟨w.heap.size, 0, none⟩))) _ _ ?_ ?_
      · rw [HA.out]; kernel_rfl
      · exact ⟨fb, fk, fs, oX, rR, (fun _ => rfl), f1, f2, f3, f4, f5, s6⟩
    refine StepsU.run rfl ?_ ?_
    · intro L U wr hF hlk haf A K hA hK
      have HA : Hid (A = putAll _ _ U) := hA
      clear hA
      simp [Aft, Region.binds] at haf
      obtain ⟨fb, fk, fs, oX, rR, f0, f1, f2, f3, f4, f5, s6⟩ := hF
      have g0 := f0 (by simp [haf])
      have e3 := rd HA.out 3 (by kernel_rfl) g0
      obtain ⟨c0, c1, c2, c3⟩ := oX.four
      refine ⟨?_⟩
      go_simp
      refine hK (upd U 4 (.agg #[.bool xX, .slice aX nX cX])) _ _ ?_ ?_
      · rw [HA.out]; kernel_rfl
      · exact ⟨fb, fk, fs, oX, rR, f0, (fun _ => rfl), f2, f3, f4, f5, s6⟩
    refine StepsU.run rfl ?_ ?_
    · intro L U wr hF hlk haf A K hA hK
      have HA : Hid (A = putAll _ _ U) := hA
      clear hA
      simp [Aft, Region.binds] at haf
      obtain ⟨fb, fk, fs, oX, rR, f0, f1, f2, f3, f4, f5, s6⟩ := hF
      have g1 := f1 (by simp [haf])
      have e4 := rd HA.out 4 (by kernel_rfl) g1
      refine ⟨?_⟩
      go_simp
      refine (rneg_any _ q.num N _ (hX.1.keepI fk) HN.out).mono ?_
      rintro e w1 ⟨u1, u2, u3, u4, rfl, hr, hb⟩
      go_simp
      refine hK (upd U 5 (.agg #[.bool u1, .slice u2 u3 u4])) _ _ ?_ ?_
      · rw [HA.out]; kernel_rfl
      · exact ⟨(fb.step hb (Nat.le_refl _)), (fk.trans (KeepI.below hb)), (Nat.le_trans fs hb.size), (oX.stay hb), (rR.stay hb), (mv mo_is (KeepI.below hb) f0), (mv mo_is (KeepI.below hb) f1), (fun _ => hr), (mv mo_is (KeepI.below hb) f3), (mv mo_is (KeepI.below hb) f4), (mv mo_rrt (KeepI.below hb) f5), s6⟩
    refine StepsU.run rfl ?_ ?_
    · intro L U wr hF hlk haf A K hA hK
      have HA : Hid (A = putAll _ _ U) := hA
      clear hA
      simp [Aft, Region.binds] at haf
      obtain ⟨fb, fk, fs, oX, rR, f0, f1, f2, f3, f4, f5, s6⟩ := hF
      have e1 : A.tmps[1]? = some (.pointer (some ⟨w.heap.size, 0, none⟩)) := by rw [HA.out]; kernel_rfl
      refine ⟨?_⟩
      go_simp
      refine hK (upd U 6 (.pointer (some ⟨w.heap.size, 2, none⟩))) _ _ ?_ ?_
      · rw [HA.out]; kernel_rfl
      · exact ⟨fb, fk, fs, oX, rR, f0, f1, f2, (fun _ => rfl), f4, f5, s6⟩
    refine StepsU.run rfl ?_ ?_
    · intro L U wr hF hlk haf A K hA hK
      have HA : Hid (A = putAll _ _ U) := hA
      clear hA
      simp [Aft, Region.binds] at haf
      obtain ⟨fb, fk, fs, oX, rR, f0, f1, f2, f3, f4, f5, s6⟩ := hF
      have g3 := f3 (by simp [haf])
      have e6 := rd HA.out 6 (by kernel_rfl) g3
      obtain ⟨c0, c1, c2, c3⟩ := oX.four
      refine ⟨?_⟩
      go_simp
      refine hK (upd U 7 (.agg #[.bool yX, .slice eX mX fX])) _ _ ?_ ?_
      · rw [HA.out]; kernel_rfl
      · exact ⟨fb, fk, fs, oX, rR, f0, f1, f2, f3, (fun _ => rfl), f5, s6⟩
    refine StepsU.run rfl ?_ ?_
    · intro L U wr hF hlk haf A K hA hK
      have HA : Hid (A = putAll _ _ U) := hA
      clear hA
      simp [Aft, Region.binds] at haf
      obtain ⟨fb, fk, fs, oX, rR, f0, f1, f2, f3, f4, f5, s6⟩ := hF
      have g2 := f2 (by simp [haf])
      obtain ⟨px, pa, pn, pc, hp⟩ := RNum.shape g2
      have e5 := rd HA.out 5 (by kernel_rfl) hp
      rw [hp] at g2
      have g4 := f4 (by simp [haf])
      have e7 := rd HA.out 7 (by kernel_rfl) g4
      refine ⟨?_⟩
      go_simp
      have hs6 : L 6 = false := by cases h : L 6 with | false => rfl | true => rw [s6 h] at hlk; cases hlk
      refine hK (upd U 8 (.agg #[.bool px, .slice pa pn pc, .bool yX, .slice eX mX fX])) _ _ ?_ ?_
      · rw [HA.out]; kernel_rfl
      · exact ⟨fb, fk, fs, oX, (flip_v (P := fun v => BlkV _ _ _ v) hs6 rR), f0, f1, f2, f3, f4, (fun _ => ⟨_, _, _, _, _, _, _, _, rfl, g2, (hX.keepI fk).2⟩), (fun _ => rfl)⟩
    refine StepsU.run rfl ?_ StepsU.nil
    · intro L U wr hF hlk haf A K hA hK
      have HA : Hid (A = putAll _ _ U) := hA
      clear hA
      simp [Aft, Region.binds] at haf
      obtain ⟨fb, fk, fs, oX, rR, f0, f1, f2, f3, f4, f5, s6⟩ := hF
      have g5 := f5 (by simp [haf])
      obtain ⟨px, pa, pn, pc, qx, qa, qn, qc, hsrc, -⟩ := g5
      have e8 := rd HA.out 8 (by kernel_rfl) hsrc
      have e2 : A.tmps[2]? = some (.pointer (some ⟨w.heap.size + 1, 0, none⟩)) := by rw [HA.out]; kernel_rfl
      simp only [hlk, cond_false] at rR
      obtain ⟨cs, hcs, hblk⟩ := rR
      injection hcs with hcs
      subst hcs
      obtain ⟨c0, c1, c2, c3⟩ := hblk.four
      obtain ⟨q0, q1, q2, q3⟩ := hblk.frozen4
      refine ⟨?_⟩
      go_simp
      have hk := keepI_four (noI_slice _ _ _) (noI_slice _ _ _) hblk px pa pn pc qx qa qn qc
      refine hK U _ _ ?_ ?_
      · exact HA.out
      · exact ⟨(below_store4 fb geR _ _ _ _), (fk.trans hk), (by simpa using fs), (oX.other4 neRX _ _ _ _), (stored_old hsrc (hblk.over4 _ _ _ _)), (mv mo_is hk f0), (mv mo_is hk f1), (mv mo_rnm hk f2), (mv mo_is hk f3), (mv mo_is hk f4), (mv mo_rrt hk f5), (fun _ => by simp [haf])⟩
  intro L U1 V1 hall hF
  have hbw0 := hbw
  clear hbw
  obtain ⟨hbw, fk, fs, oX, rR, f0, f1, f2, f3, f4, f5, s6⟩ := hF
  clear s6
  have g0 := f0 (hall 0 (by decide))
  have g1 := f1 (hall 1 (by decide))
  have g2 := f2 (hall 2 (by decide))
  have g3 := f3 (hall 3 (by decide))
  have g4 := f4 (hall 4 (by decide))
  have g5 := f5 (hall 5 (by decide))
  rw [hall 6 (by decide), cond_true] at rR
  clear hall f0 f1 f2 f3 f4 f5
  replace hX := hX.keepI fk
  replace ltX := Nat.lt_of_lt_of_le ltX fs
  replace ltR := Nat.lt_of_lt_of_le ltR fs
  clear g0
  clear g1
  clear g2
  clear g3
  clear g4
  clear hbw0
  simp only [setM_some, setM_none, setM_nil]
  clear fk fs
  obtain ⟨cs, hcs, oR⟩ := rR
  obtain ⟨px, pa, pn, pc, qx, qa, qn, qc, hv, hq⟩ := g5
  rw [hv] at hcs
  injection hcs with hcs
  subst hcs
  obtain ⟨r0, r1, r2, r3⟩ := oR.four
  try simp only []
  try go_at_K
  repeat (first | go_values | go_skip | go_guarded | go_step | go_upon)
  refine bodyPost_ret (v := (.agg #[.bool px, .slice pa pn pc, .bool qx, .slice qa qn qc])) (by simp [results, Try.results28, go_sem, r0, r1, r2, r3]) rfl ?_
  exact ⟨_, _, _, _, _, _, _, _, rfl, hq, hbw⟩

set_option maxRecDepth 20000 in
set_option maxHeartbeats 8000000 in
theorem rqcmp_any (vX vY : Value) (x1 y1 : Rat) (w : World) (hX : QRV w vX x1 400) (hY : QRV w vY y1 400) :
    Calls Try.prog 23 #[vX, vY] w fun e w' => e = .returned (.int .i64 (cmpQ x1 y1)) ∧ Below w.heap.size w w' := by
  obtain ⟨xX, aX, nX, cX, yX, eX, mX, fX, rfl, hX⟩ := hX
  obtain ⟨xY, aY, nY, cY, yY, eY, mY, fY, rfl, hY⟩ := hY
  have oX := ((Blk.new w 35 #[.bool xX, .slice aX nX cX, .bool yX, .slice eX mX fX]).alloc (.cells #[.bool xY, .slice aY nY cY, .bool yY, .slice eY mY fY] 35 (0, 0)))
  have oY := (Blk.new (w.alloc (.cells #[.bool xX, .slice aX nX cX, .bool yX, .slice eX mX fX] 35 (0, 0))) 35 #[.bool xY, .slice aY nY cY, .bool yY, .slice eY mY fY])
  simp only [World.size_alloc] at oY
  have hbw : Below w.heap.size w ((w.alloc (.cells #[.bool xX, .slice aX nX cX, .bool yX, .slice eX mX fX] 35 (0, 0))).alloc (.cells #[.bool xY, .slice aY nY cY, .bool yY, .slice eY mY fY] 35 (0, 0))) := by go_grown
  replace hX := hX.below hbw
  replace hY := hY.below hbw
  have ltX := oX.lt
  have ltY := oY.lt
  go_enter Try.func23, Try.ntmps23
  go_wp2
  generalize ((w.alloc (.cells #[.bool xX, .slice aX nX cX, .bool yX, .slice eX mX fX] 35 (0, 0))).alloc (.cells #[.bool xY, .slice aY nY cY, .bool yY, .slice eY mY fY] 35 (0, 0))) = W0 at hbw oX oY ltX ltY hX hY ⊢
  refine wp_region_M (by kernel_rfl) [4, 5, 6, 7, 8, 9, 10, 11, 12, 13, 14, 15] [none, none, none, none, some 4, some 5, some 6, some 7, some 8, some 9, some 10, some 11, some 12, some 13, some 14, some 15] (fun U => by kernel_rfl) (fun L U wr => Below w.heap.size w wr ∧ KeepI W0 wr ∧ W0.heap.size ≤ wr.heap.size ∧ Blk 35 wr (w.heap.size) #[.bool xX, .slice aX nX cX, .bool yX, .slice eX mX fX] ∧ Blk 35 wr (w.heap.size + 1) #[.bool xY, .slice aY nY cY, .bool yY, .slice eY mY fY] ∧ (L 0 = true → IS (.pointer (some ⟨w.heap.size, 0, none⟩)) (U 5) wr) ∧ (L 1 = true → IS (.agg #[.bool xX, .slice aX nX cX]) (U 6) wr) ∧ (L 2 = true → IS (.agg #[.bool xY, .slice aY nY cY, .bool yY, .slice eY mY fY]) (U 7) wr) ∧ (L 3 = true → RNM (y1.den : Int) 400 (U 8) wr) ∧ (L 4 = true → RNM (x1.num * (y1.den : Int)) 801 (U 9) wr) ∧ (L 5 = true → IS (.pointer (some ⟨w.heap.size + 1, 0, none⟩)) (U 10) wr) ∧ (L 6 = true → IS (.agg #[.bool xY, .slice aY nY cY]) (U 11) wr) ∧ (L 7 = true → IS (.agg #[.bool xX, .slice aX nX cX, .bool yX, .slice eX mX fX]) (U 12) wr) ∧ (L 8 = true → RNM (x1.den : Int) 400 (U 13) wr) ∧ (L 9 = true → RNM (y1.num * (x1.den : Int)) 801 (U 14) wr) ∧ (L 10 = true → IS (.int .i64 (cmpQ x1 y1)) (U 15) wr) ∧ (L 11 = true → IS (.int .i64 (cmpQ x1 y1)) (U 4) wr)) (by kernel_rfl) ?_ ?_ ?_
  · exact fun U => ⟨hbw.drew, KeepI.below (Below.refl _ _).drew, Nat.le_refl _, oX.drew, oY.drew, (fun h => by cases h), (fun h => by cases h), (fun h => by cases h), (fun h => by cases h), (fun h => by cases h), (fun h => by cases h), (fun h => by cases h), (fun h => by cases h), (fun h => by cases h), (fun h => by cases h), (fun h => by cases h), (fun h => by cases h)⟩
  · refine StepsU.run rfl ?_ ?_
    · intro L U wr hF hlk haf A K hA hK
      have HA : Hid (A = putAll _ _ U) := hA
      clear hA
      simp [Aft, Region.binds] at haf
      obtain ⟨fb, fk, fs, oX, oY, f0, f1, f2, f3, f4, f5, f6, f7, f8, f9, f10, f11⟩ := hF
      have e2 : A.tmps[2]? = some (.pointer (some ⟨w.heap.size, 0, none⟩)) := by rw [HA.out]; kernel_rfl
      refine ⟨?_⟩
      go_simp
      refine hK (upd U 5 (.pointer (some ⟨w.heap.size, 0, none⟩))) _ _ ?_ ?_
      · rw [HA.out]; kernel_rfl
      · exact ⟨fb, fk, fs, oX, oY, (fun _ => rfl), f1, f2, f3, f4, f5, f6, f7, f8, f9, f10, f11⟩
    refine StepsU.run rfl ?_ ?_
    · intro L U wr hF hlk haf A K hA hK
      have HA : Hid (A = putAll _ _ U) := hA
      clear hA
      simp [Aft, Region.binds] at haf
      obtain ⟨fb, fk, fs, oX, oY, f0, f1, f2, f3, f4, f5, f6, f7, f8, f9, f10, f11⟩ := hF
      have g0 := f0 (by simp [haf])
      have e5 := rd HA.out 5 (by kernel_rfl) g0
      obtain ⟨c0, c1, c2, c3⟩ := oX.four
      refine ⟨?_⟩
      go_simp
      refine hK (upd U 6 (.agg #[.bool xX, .slice aX nX cX])) _ _ ?_ ?_
      · rw [HA.out]; kernel_rfl
      · exact ⟨fb, fk, fs, oX, oY, f0, (fun _ => rfl), f2, f3, f4, f5, f6, f7, f8, f9, f10, f11⟩
    refine StepsU.run rfl ?_ ?_
    · intro L U wr hF hlk haf A K hA hK
      have HA : Hid (A = putAll _ _ U) := hA
      clear hA
      simp [Aft, Region.binds] at haf
      obtain ⟨fb, fk, fs, oX, oY, f0, f1, f2, f3, f4, f5, f6, f7, f8, f9, f10, f11⟩ := hF
      have e3 : A.tmps[3]? = some (.pointer (some ⟨w.heap.size + 1, 0, none⟩)) := by rw [HA.out]; kernel_rfl
      obtain ⟨c0, c1, c2, c3⟩ := oY.four
      refine ⟨?_⟩
      go_simp
      refine hK (upd U 7 (.agg #[.bool xY, .slice aY nY cY, .bool yY, .slice eY mY fY])) _ _ ?_ ?_
      · rw [HA.out]; kernel_rfl
      · exact ⟨fb, fk, fs, oX, oY, f0, f1, (fun _ => rfl), f3, f4, f5, f6, f7, f8, f9, f10, f11⟩
    refine StepsU.run rfl ?_ ?_
    · intro L U wr hF hlk haf A K hA hK
      have HA : Hid (A = putAll _ _ U) := hA
      clear hA
      simp [Aft, Region.binds] at haf
      obtain ⟨fb, fk, fs, oX, oY, f0, f1, f2, f3, f4, f5, f6, f7, f8, f9, f10, f11⟩ := hF
      have g2 := f2 (by simp [haf])
      have e7 := rd HA.out 7 (by kernel_rfl) g2
      refine ⟨?_⟩
      go_simp
      refine (low_any _ y1 400 _ (hY.val.keepI fk) (by decide)).mono ?_
      rintro e w1 ⟨u1, u2, u3, u4, rfl, hr, hb⟩
      go_simp
      refine hK (upd U 8 (.agg #[.bool u1, .slice u2 u3 u4])) _ _ ?_ ?_
      · rw [HA.out]; kernel_rfl
      · exact ⟨(fb.step hb (Nat.le_refl _)), (fk.trans (KeepI.below hb)), (Nat.le_trans fs hb.size), (oX.stay hb), (oY.stay hb), (mv mo_is (KeepI.below hb) f0), (mv mo_is (KeepI.below hb) f1), (mv mo_is (KeepI.below hb) f2), (fun _ => hr), (mv mo_rnm (KeepI.below hb) f4), (mv mo_is (KeepI.below hb) f5), (mv mo_is (KeepI.below hb) f6), (mv mo_is (KeepI.below hb) f7), (mv mo_rnm (KeepI.below hb) f8), (mv mo_rnm (KeepI.below hb) f9), (mv mo_is (KeepI.below hb) f10), (mv mo_is (KeepI.below hb) f11)⟩
    refine StepsU.run rfl ?_ ?_
    · intro L U wr hF hlk haf A K hA hK
      have HA : Hid (A = putAll _ _ U) := hA
      clear hA
      simp [Aft, Region.binds] at haf
      obtain ⟨fb, fk, fs, oX, oY, f0, f1, f2, f3, f4, f5, f6, f7, f8, f9, f10, f11⟩ := hF
      have g1 := f1 (by simp [haf])
      have e6 := rd HA.out 6 (by kernel_rfl) g1
      have g3 := f3 (by simp [haf])
      have e8 := rd HA.out 8 (by kernel_rfl) rfl
      refine ⟨?_⟩
      go_simp
      refine (rMul_any _ _ x1.num (y1.den : Int) _ 400 400 _ (hX.1.keepI fk) g3 (by decide) rfl).mono ?_
      rintro e w1 ⟨u1, u2, u3, u4, rfl, hr, hb⟩
      go_simp
      refine hK (upd U 9 (.agg #[.bool u1, .slice u2 u3 u4])) _ _ ?_ ?_
      · rw [HA.out]; kernel_rfl
      · exact ⟨(fb.step hb (Nat.le_refl _)), (fk.trans (KeepI.below hb)), (Nat.le_trans fs hb.size), (oX.stay hb), (oY.stay hb), (mv mo_is (KeepI.below hb) f0), (mv mo_is (KeepI.below hb) f1), (mv mo_is (KeepI.below hb) f2), (mv mo_rnm (KeepI.below hb) f3), (fun _ => hr), (mv mo_is (KeepI.below hb) f5), (mv mo_is (KeepI.below hb) f6), (mv mo_is (KeepI.below hb) f7), (mv mo_rnm (KeepI.below hb) f8), (mv mo_rnm (KeepI.below hb) f9), (mv mo_is (KeepI.below hb) f10), (mv mo_is (KeepI.below hb) f11)⟩
    refine StepsU.run rfl ?_ ?_
    · intro L U wr hF hlk haf A K hA hK
      have HA : Hid (A = putAll _ _ U) := hA
      clear hA
      simp [Aft, Region.binds] at haf
      obtain ⟨fb, fk, fs, oX, oY, f0, f1, f2, f3, f4, f5, f6, f7, f8, f9, f10, f11⟩ := hF
      have e3 : A.tmps[3]? = some (.pointer (some ⟨w.heap.size + 1, 0, none⟩)) := by rw [HA.out]; kernel_rfl
      refine ⟨?_⟩
      go_simp
      refine hK (upd U 10 (.pointer (some ⟨w.heap.size + 1, 0, none⟩))) _ _ ?_ ?_
      · rw [HA.out]; kernel_rfl
      · exact ⟨fb, fk, fs, oX, oY, f0, f1, f2, f3, f4, (fun _ => rfl), f6, f7, f8, f9, f10, f11⟩
    refine StepsU.run rfl ?_ ?_
    · intro L U wr hF hlk haf A K hA hK
      have HA : Hid (A = putAll _ _ U) := hA
      clear hA
      simp [Aft, Region.binds] at haf
      obtain ⟨fb, fk, fs, oX, oY, f0, f1, f2, f3, f4, f5, f6, f7, f8, f9, f10, f11⟩ := hF
      have g5 := f5 (by simp [haf])
      have e10 := rd HA.out 10 (by kernel_rfl) g5
      obtain ⟨c0, c1, c2, c3⟩ := oY.four
      refine ⟨?_⟩
      go_simp
      refine hK (upd U 11 (.agg #[.bool xY, .slice aY nY cY])) _ _ ?_ ?_
      · rw [HA.out]; kernel_rfl
      · exact ⟨fb, fk, fs, oX, oY, f0, f1, f2, f3, f4, f5, (fun _ => rfl), f7, f8, f9, f10, f11⟩
    refine StepsU.run rfl ?_ ?_
    · intro L U wr hF hlk haf A K hA hK
      have HA : Hid (A = putAll _ _ U) := hA
      clear hA
      simp [Aft, Region.binds] at haf
      obtain ⟨fb, fk, fs, oX, oY, f0, f1, f2, f3, f4, f5, f6, f7, f8, f9, f10, f11⟩ := hF
      have e2 : A.tmps[2]? = some (.pointer (some ⟨w.heap.size, 0, none⟩)) := by rw [HA.out]; kernel_rfl
      obtain ⟨c0, c1, c2, c3⟩ := oX.four
      refine ⟨?_⟩
      go_simp
      refine hK (upd U 12 (.agg #[.bool xX, .slice aX nX cX, .bool yX, .slice eX mX fX])) _ _ ?_ ?_
      · rw [HA.out]; kernel_rfl
      · exact ⟨fb, fk, fs, oX, oY, f0, f1, f2, f3, f4, f5, f6, (fun _ => rfl), f8, f9, f10, f11⟩
    refine StepsU.run rfl ?_ ?_
    · intro L U wr hF hlk haf A K hA hK
      have HA : Hid (A = putAll _ _ U) := hA
      clear hA
      simp [Aft, Region.binds] at haf
      obtain ⟨fb, fk, fs, oX, oY, f0, f1, f2, f3, f4, f5, f6, f7, f8, f9, f10, f11⟩ := hF
      have g7 := f7 (by simp [haf])
      have e12 := rd HA.out 12 (by kernel_rfl) g7
      refine ⟨?_⟩
      go_simp
      refine (low_any _ x1 400 _ (hX.val.keepI fk) (by decide)).mono ?_
      rintro e w1 ⟨u1, u2, u3, u4, rfl, hr, hb⟩
      go_simp
      refine hK (upd U 13 (.agg #[.bool u1, .slice u2 u3 u4])) _ _ ?_ ?_
      · rw [HA.out]; kernel_rfl
      · exact ⟨(fb.step hb (Nat.le_refl _)), (fk.trans (KeepI.below hb)), (Nat.le_trans fs hb.size), (oX.stay hb), (oY.stay hb), (mv mo_is (KeepI.below hb) f0), (mv mo_is (KeepI.below hb) f1), (mv mo_is (KeepI.below hb) f2), (mv mo_rnm (KeepI.below hb) f3), (mv mo_rnm (KeepI.below hb) f4), (mv mo_is (KeepI.below hb) f5), (mv mo_is (KeepI.below hb) f6), (mv mo_is (KeepI.below hb) f7), (fun _ => hr), (mv mo_rnm (KeepI.below hb) f9), (mv mo_is (KeepI.below hb) f10), (mv mo_is (KeepI.below hb) f11)⟩
    refine StepsU.run rfl ?_ ?_
    · intro L U wr hF hlk haf A K hA hK
      have HA : Hid (A = putAll _ _ U) := hA
      clear hA
      simp [Aft, Region.binds] at haf
      obtain ⟨fb, fk, fs, oX, oY, f0, f1, f2, f3, f4, f5, f6, f7, f8, f9, f10, f11⟩ := hF
      have g6 := f6 (by simp [haf])
      have e11 := rd HA.out 11 (by kernel_rfl) g6
      have g8 := f8 (by simp [haf])
      have e13 := rd HA.out 13 (by kernel_rfl) rfl
      refine ⟨?_⟩
      go_simp
      refine (rMul_any _ _ y1.num (x1.den : Int) _ 400 400 _ (hY.1.keepI fk) g8 (by decide) rfl).mono ?_
      rintro e w1 ⟨u1, u2, u3, u4, rfl, hr, hb⟩
      go_simp
      refine hK (upd U 14 (.agg #[.bool u1, .slice u2 u3 u4])) _ _ ?_ ?_
      · rw [HA.out]; kernel_rfl
      · exact ⟨(fb.step hb (Nat.le_refl _)), (fk.trans (KeepI.below hb)), (Nat.le_trans fs hb.size), (oX.stay hb), (oY.stay hb), (mv mo_is (KeepI.below hb) f0), (mv mo_is (KeepI.below hb) f1), (mv mo_is (KeepI.below hb) f2), (mv mo_rnm (KeepI.below hb) f3), (mv mo_rnm (KeepI.below hb) f4), (mv mo_is (KeepI.below hb) f5), (mv mo_is (KeepI.below hb) f6), (mv mo_is (KeepI.below hb) f7), (mv mo_rnm (KeepI.below hb) f8), (fun _ => hr), (mv mo_is (KeepI.below hb) f10), (mv mo_is (KeepI.below hb) f11)⟩
    refine StepsU.run rfl ?_ ?_
    · intro L U wr hF hlk haf A K hA hK
      have HA : Hid (A = putAll _ _ U) := hA
      clear hA
      simp [Aft, Region.binds] at haf
      obtain ⟨fb, fk, fs, oX, oY, f0, f1, f2, f3, f4, f5, f6, f7, f8, f9, f10, f11⟩ := hF
      have g4 := f4 (by simp [haf])
      have e9 := rd HA.out 9 (by kernel_rfl) rfl
      have g9 := f9 (by simp [haf])
      have e14 := rd HA.out 14 (by kernel_rfl) rfl
      refine ⟨?_⟩
      go_simp
      refine (rCmp_s _ _ _ _ (cmpQ x1 y1) 801 801 _ g4 g9 (by decide) (by decide) rfl).mono ?_
      rintro e w1 ⟨rfl, hb⟩
      go_simp
      refine hK (upd U 15 (.int .i64 (cmpQ x1 y1))) _ _ ?_ ?_
      · rw [HA.out]; kernel_rfl
      · exact ⟨(fb.step hb (Nat.le_refl _)), (fk.trans (KeepI.below hb)), (Nat.le_trans fs hb.size), (oX.stay hb), (oY.stay hb), (mv mo_is (KeepI.below hb) f0), (mv mo_is (KeepI.below hb) f1), (mv mo_is (KeepI.below hb) f2), (mv mo_rnm (KeepI.below hb) f3), (mv mo_rnm (KeepI.below hb) f4), (mv mo_is (KeepI.below hb) f5), (mv mo_is (KeepI.below hb) f6), (mv mo_is (KeepI.below hb) f7), (mv mo_rnm (KeepI.below hb) f8), (mv mo_rnm (KeepI.below hb) f9), (fun _ => rfl), (mv mo_is (KeepI.below hb) f11)⟩
    refine StepsU.run rfl ?_ StepsU.nil
    · intro L U wr hF hlk haf A K hA hK
      have HA : Hid (A = putAll _ _ U) := hA
      clear hA
      simp [Aft, Region.binds] at haf
      obtain ⟨fb, fk, fs, oX, oY, f0, f1, f2, f3, f4, f5, f6, f7, f8, f9, f10, f11⟩ := hF
      have g10 := f10 (by simp [haf])
      have e15 := rd HA.out 15 (by kernel_rfl) rfl
      refine ⟨?_⟩
      go_simp
      refine hK (upd U 4 (U 15)) _ _ ?_ ?_
      · rw [HA.out]; kernel_rfl
      · exact ⟨fb, fk, fs, oX, oY, f0, f1, f2, f3, f4, f5, f6, f7, f8, f9, f10, (fun _ => g10)⟩
  intro L U1 V1 hall hF
  have hbw0 := hbw
  clear hbw
  obtain ⟨hbw, fk, fs, oX, oY, f0, f1, f2, f3, f4, f5, f6, f7, f8, f9, f10, f11⟩ := hF
  have g0 := f0 (hall 0 (by decide))
  have g1 := f1 (hall 1 (by decide))
  have g2 := f2 (hall 2 (by decide))
  have g3 := f3 (hall 3 (by decide))
  have g4 := f4 (hall 4 (by decide))
  have g5 := f5 (hall 5 (by decide))
  have g6 := f6 (hall 6 (by decide))
  have g7 := f7 (hall 7 (by decide))
  have g8 := f8 (hall 8 (by decide))
  have g9 := f9 (hall 9 (by decide))
  have g10 := f10 (hall 10 (by decide))
  have g11 := f11 (hall 11 (by decide))
  clear hall f0 f1 f2 f3 f4 f5 f6 f7 f8 f9 f10 f11
  replace hX := hX.keepI fk
  replace hY := hY.keepI fk
  replace ltX := Nat.lt_of_lt_of_le ltX fs
  replace ltY := Nat.lt_of_lt_of_le ltY fs
  clear g0
  clear g1
  clear g2
  clear g3
  clear g4
  clear g5
  clear g6
  clear g7
  clear g8
  clear g9
  clear g10
  clear hbw0
  simp only [setM_some, setM_none, setM_nil]
  clear fk fs
  have e4 : U1 4 = _ := g11
  try simp only []
  try go_at_K
  repeat (first | go_values | go_skip | go_guarded | go_step | go_upon)
  refine bodyPost_ret (v := (.int .i64 (cmpQ x1 y1))) (by simp [results, Try.results23, go_sem, e4]) rfl ?_
  exact ⟨rfl, hbw⟩

set_option maxRecDepth 20000 in
set_option maxHeartbeats 8000000 in
theorem rfloor_any (vX : Value) (q : Rat) (w : World) (hX : QRV w vX q 400) :
    Calls Try.prog 32 #[vX] w fun e w' => ∃ s a n c, e = .returned (.agg #[.bool s, .slice a n c]) ∧ RNum w' (.agg #[.bool s, .slice a n c]) (q.floor) (830) ∧ Below w.heap.size w w' := by
  obtain ⟨xX, aX, nX, cX, yX, eX, mX, fX, rfl, hX⟩ := hX
  have HD : Hid ((q.den : Int) ≠ 0) := Int.ne_of_gt (den_pos q)
  have oX := ((Blk.new w 35 #[.bool xX, .slice aX nX cX, .bool yX, .slice eX mX fX]).alloc (.cells #[.bool false, .slice none 0 0] 33 (0, 0)))
  have oR := (Blk.new (w.alloc (.cells #[.bool xX, .slice aX nX cX, .bool yX, .slice eX mX fX] 35 (0, 0))) 33 #[.bool false, .slice none 0 0])
  simp only [World.size_alloc] at oR
  have hbw : Below w.heap.size w ((w.alloc (.cells #[.bool xX, .slice aX nX cX, .bool yX, .slice eX mX fX] 35 (0, 0))).alloc (.cells #[.bool false, .slice none 0 0] 33 (0, 0))) := by go_grown
  replace hX := hX.below hbw
  have ltX := oX.lt
  have ltR := oR.lt
  go_enter Try.func32, Try.ntmps32
  go_wp2
  generalize ((w.alloc (.cells #[.bool xX, .slice aX nX cX, .bool yX, .slice eX mX fX] 35 (0, 0))).alloc (.cells #[.bool false, .slice none 0 0] 33 (0, 0))) = W0 at hbw oX oR ltX ltR hX ⊢
  refine wp_region_M (by kernel_rfl) [3, 4, 5, 6, 7, 8, 9, 10, 11, 12, 13, 14] [none, none, none, some 3, some 4, some 5, some 6, some 7, some 8, some 9, some 10, some 11, some 12, some 13, some 14] (fun U => by kernel_rfl) (fun L U wr => Below w.heap.size w wr ∧ KeepI W0 wr ∧ W0.heap.size ≤ wr.heap.size ∧ Blk 35 wr (w.heap.size) #[.bool xX, .slice aX nX cX, .bool yX, .slice eX mX fX] ∧ Blk 33 wr (w.heap.size + 1) #[.bool false, .slice none 0 0] ∧ (L 0 = true → IS (.pointer (some ⟨w.heap.size, 0, none⟩)) (U 7) wr) ∧ (L 1 = true → IS (.agg #[.bool xX, .slice aX nX cX]) (U 8) wr) ∧ (L 2 = true → IS (.agg #[.bool xX, .slice aX nX cX, .bool yX, .slice eX mX fX]) (U 9) wr) ∧ (L 3 = true → RNM (q.den : Int) 400 (U 10) wr) ∧ (L 4 = true → T3 (RNM (q.num.fdiv (q.den : Int)) 830) (RNM (q.num.fmod (q.den : Int)) 830) (IS (.int .i64 0)) (U 11) wr) ∧ (L 5 = true → T3 (RNM (q.num.fdiv (q.den : Int)) 830) (RNM (q.num.fmod (q.den : Int)) 830) (IS (.int .i64 0)) (U 6) wr) ∧ (L 6 = true → RNM (q.num.fdiv (q.den : Int)) 830 (U 12) wr) ∧ (L 7 = true → RNM (q.num.fmod (q.den : Int)) 830 (U 13) wr) ∧ (L 8 = true → IS (.int .i64 0) (U 14) wr) ∧ (L 9 = true → NEW 33 W0.heap.size wr (U 3) (bif L 11 then U 12 else .agg #[.bool false, .slice none 0 0])) ∧ (L 10 = true → NEW 33 W0.heap.size wr (U 4) (bif L 12 then U 13 else .agg #[.bool false, .slice none 0 0])) ∧ (L 13 = true → IS (.int .i64 0) (U 5) wr) ∧ (L 11 = true → L 6 = true) ∧ (L 12 = true → L 7 = true) ∧ (L 11 = true → L 9 = true) ∧ (L 12 = true → L 10 = true) ∧ (L 9 = true → L 10 = true → U 3 ≠ U 4)) (by kernel_rfl) ?_ ?_ ?_
  · exact fun U => ⟨hbw.drew, KeepI.below (Below.refl _ _).drew, Nat.le_refl _, oX.drew, oR.drew, (fun h => by cases h), (fun h => by cases h), (fun h => by cases h), (fun h => by cases h), (fun h => by cases h), (fun h => by cases h), (fun h => by cases h), (fun h => by cases h), (fun h => by cases h), (fun h => by cases h), (fun h => by cases h), (fun h => by cases h), (fun h => by cases h), (fun h => by cases h), (fun h => by cases h), (fun h => by cases h), (fun h => by cases h)⟩
  · refine StepsU.run rfl ?_ ?_
    · intro L U wr hF hlk haf A K hA hK
      have HA : Hid (A = putAll _ _ U) := hA
      clear hA
      simp [Aft, Region.binds] at haf
      obtain ⟨fb, fk, fs, oX, oR, f0, f1, f2, f3, f4, f5, f6, f7, f8, f9, f10, f13, s11, s12, m9, m10, d9_10⟩ := hF
      have e1 : A.tmps[1]? = some (.pointer (some ⟨w.heap.size, 0, none⟩)) := by rw [HA.out]; kernel_rfl
      refine ⟨?_⟩
      go_simp
      refine hK (upd U 7 (.pointer (some ⟨w.heap.size, 0, none⟩))) _ _ ?_ ?_
      · rw [HA.out]; kernel_rfl
      · exact ⟨fb, fk, fs, oX, oR, (fun _ => rfl), f1, f2, f3, f4, f5, f6, f7, f8, f9, f10, f13, s11, s12, m9, m10, d9_10⟩
    refine StepsU.run rfl ?_ ?_
    · intro L U wr hF hlk haf A K hA hK
      have HA : Hid (A = putAll _ _ U) := hA
      clear hA
      simp [Aft, Region.binds] at haf
      obtain ⟨fb, fk, fs, oX, oR, f0, f1, f2, f3, f4, f5, f6, f7, f8, f9, f10, f13, s11, s12, m9, m10, d9_10⟩ := hF
      have g0 := f0 (by simp [haf])
      have e7 := rd HA.out 7 (by kernel_rfl) g0
      obtain ⟨c0, c1, c2, c3⟩ := oX.four
      refine ⟨?_⟩
      go_simp
      refine hK (upd U 8 (.agg #[.bool xX, .slice aX nX cX])) _ _ ?_ ?_
      · rw [HA.out]; kernel_rfl
      · exact ⟨fb, fk, fs, oX, oR, f0, (fun _ => rfl), f2, f3, f4, f5, f6, f7, f8, f9, f10, f13, s11, s12, m9, m10, d9_10⟩
    refine StepsU.run rfl ?_ ?_
    · intro L U wr hF hlk haf A K hA hK
      have HA : Hid (A = putAll _ _ U) := hA
      clear hA
      simp [Aft, Region.binds] at haf
      obtain ⟨fb, fk, fs, oX, oR, f0, f1, f2, f3, f4, f5, f6, f7, f8, f9, f10, f13, s11, s12, m9, m10, d9_10⟩ := hF
      have e1 : A.tmps[1]? = some (.pointer (some ⟨w.heap.size, 0, none⟩)) := by rw [HA.out]; kernel_rfl
      obtain ⟨c0, c1, c2, c3⟩ := oX.four
      refine ⟨?_⟩
      go_simp
      refine hK (upd U 9 (.agg #[.bool xX, .slice aX nX cX, .bool yX, .slice eX mX fX])) _ _ ?_ ?_
      · rw [HA.out]; kernel_rfl
      · exact ⟨fb, fk, fs, oX, oR, f0, f1, (fun _ => rfl), f3, f4, f5, f6, f7, f8, f9, f10, f13, s11, s12, m9, m10, d9_10⟩
    refine StepsU.run rfl ?_ ?_
    · intro L U wr hF hlk haf A K hA hK
      have HA : Hid (A = putAll _ _ U) := hA
      clear hA
      simp [Aft, Region.binds] at haf
      obtain ⟨fb, fk, fs, oX, oR, f0, f1, f2, f3, f4, f5, f6, f7, f8, f9, f10, f13, s11, s12, m9, m10, d9_10⟩ := hF
      have g2 := f2 (by simp [haf])
      have e9 := rd HA.out 9 (by kernel_rfl) g2
      refine ⟨?_⟩
      go_simp
      refine (low_any _ q 400 _ (hX.val.keepI fk) (by decide)).mono ?_
      rintro e w1 ⟨u1, u2, u3, u4, rfl, hr, hb⟩
      go_simp
      refine hK (upd U 10 (.agg #[.bool u1, .slice u2 u3 u4])) _ _ ?_ ?_
      · rw [HA.out]; kernel_rfl
      · exact ⟨(fb.step hb (Nat.le_refl _)), (fk.trans (KeepI.below hb)), (Nat.le_trans fs hb.size), (oX.stay hb), (oR.stay hb), (mv mo_is (KeepI.below hb) f0), (mv mo_is (KeepI.below hb) f1), (mv mo_is (KeepI.below hb) f2), (fun _ => hr), (mv (mo_t3 mo_rnm mo_rnm mo_is) (KeepI.below hb) f4), (mv (mo_t3 mo_rnm mo_rnm mo_is) (KeepI.below hb) f5), (mv mo_rnm (KeepI.below hb) f6), (mv mo_rnm (KeepI.below hb) f7), (mv mo_is (KeepI.below hb) f8), (fun h => (f9 h).below hb), (fun h => (f10 h).below hb), (mv mo_is (KeepI.below hb) f13), s11, s12, m9, m10, d9_10⟩
    refine StepsU.run rfl ?_ ?_
    · intro L U wr hF hlk haf A K hA hK
      have HA : Hid (A = putAll _ _ U) := hA
      clear hA
      simp [Aft, Region.binds] at haf
      obtain ⟨fb, fk, fs, oX, oR, f0, f1, f2, f3, f4, f5, f6, f7, f8, f9, f10, f13, s11, s12, m9, m10, d9_10⟩ := hF
      have g1 := f1 (by simp [haf])
      have e8 := rd HA.out 8 (by kernel_rfl) g1
      have g3 := f3 (by simp [haf])
      have e10 := rd HA.out 10 (by kernel_rfl) rfl
      refine ⟨?_⟩
      go_simp
      refine (rDiv_L _ _ q.num (q.den : Int) 400 _ (hX.1.keepI fk) g3 (by decide) HD.out).mono ?_
      rintro e w1 ⟨u1, u2, u3, u4, u5, u6, u7, u8, rfl, hr, hr2, hb⟩
      go_simp
      refine hK (upd U 11 (.tuple #[.agg #[.bool u1, .slice u2 u3 u4], .agg #[.bool u5, .slice u6 u7 u8], .int .i64 0])) _ _ ?_ ?_
      · rw [HA.out]; kernel_rfl
      · exact ⟨(fb.step hb (Nat.le_refl _)), (fk.trans (KeepI.below hb)), (Nat.le_trans fs hb.size), (oX.stay hb), (oR.stay hb), (mv mo_is (KeepI.below hb) f0), (mv mo_is (KeepI.below hb) f1), (mv mo_is (KeepI.below hb) f2), (mv mo_rnm (KeepI.below hb) f3), (fun _ => ⟨_, _, _, rfl, hr, hr2, rfl⟩), (mv (mo_t3 mo_rnm mo_rnm mo_is) (KeepI.below hb) f5), (mv mo_rnm (KeepI.below hb) f6), (mv mo_rnm (KeepI.below hb) f7), (mv mo_is (KeepI.below hb) f8), (fun h => (f9 h).below hb), (fun h => (f10 h).below hb), (mv mo_is (KeepI.below hb) f13), s11, s12, m9, m10, d9_10⟩
    refine StepsU.run rfl ?_ ?_
    · intro L U wr hF hlk haf A K hA hK
      have HA : Hid (A = putAll _ _ U) := hA
      clear hA
      simp [Aft, Region.binds] at haf
      obtain ⟨fb, fk, fs, oX, oR, f0, f1, f2, f3, f4, f5, f6, f7, f8, f9, f10, f13, s11, s12, m9, m10, d9_10⟩ := hF
      have g4 := f4 (by simp [haf])
      have e11 := rd HA.out 11 (by kernel_rfl) rfl
      refine ⟨?_⟩
      go_simp
      refine hK (upd U 6 (U 11)) _ _ ?_ ?_
      · rw [HA.out]; kernel_rfl
      · exact ⟨fb, fk, fs, oX, oR, f0, f1, f2, f3, f4, (fun _ => g4), f6, f7, f8, f9, f10, f13, s11, s12, m9, m10, d9_10⟩
    refine StepsU.run rfl ?_ ?_
    · intro L U wr hF hlk haf A K hA hK
      have HA : Hid (A = putAll _ _ U) := hA
      clear hA
      simp [Aft, Region.binds] at haf
      obtain ⟨fb, fk, fs, oX, oR, f0, f1, f2, f3, f4, f5, f6, f7, f8, f9, f10, f13, s11, s12, m9, m10, d9_10⟩ := hF
      have g5 := f5 (by simp [haf])
      obtain ⟨t0, t1, t2, hT, k0, k1, k2⟩ := g5
      have e6 := rd HA.out 6 (by kernel_rfl) hT
      refine ⟨?_⟩
      go_simp
      have hs11 : L 11 = false := by cases h : L 11 with | false => rfl | true => rw [s11 h] at hlk; cases hlk
      refine hK (upd U 12 t0) _ _ ?_ ?_
      · rw [HA.out]; kernel_rfl
      · exact ⟨fb, fk, fs, oX, oR, f0, f1, f2, f3, f4, f5, (fun _ => k0), f7, f8, (fun h => flip_v (P := fun v => NEW _ _ _ _ v) hs11 (f9 h)), f10, f13, (fun _ => rfl), s12, m9, m10, d9_10⟩
    refine StepsU.run rfl ?_ ?_
    · intro L U wr hF hlk haf A K hA hK
      have HA : Hid (A = putAll _ _ U) := hA
      clear hA
      simp [Aft, Region.binds] at haf
      obtain ⟨fb, fk, fs, oX, oR, f0, f1, f2, f3, f4, f5, f6, f7, f8, f9, f10, f13, s11, s12, m9, m10, d9_10⟩ := hF
      have g5 := f5 (by simp [haf])
      obtain ⟨t0, t1, t2, hT, k0, k1, k2⟩ := g5
      have e6 := rd HA.out 6 (by kernel_rfl) hT
      refine ⟨?_⟩
      go_simp
      have hs12 : L 12 = false := by cases h : L 12 with | false => rfl | true => rw [s12 h] at hlk; cases hlk
      refine hK (upd U 13 t1) _ _ ?_ ?_
      · rw [HA.out]; kernel_rfl
      · exact ⟨fb, fk, fs, oX, oR, f0, f1, f2, f3, f4, f5, f6, (fun _ => k1), f8, f9, (fun h => flip_v (P := fun v => NEW _ _ _ _ v) hs12 (f10 h)), f13, s11, (fun _ => rfl), m9, m10, d9_10⟩
    refine StepsU.run rfl ?_ ?_
    · intro L U wr hF hlk haf A K hA hK
      have HA : Hid (A = putAll _ _ U) := hA
      clear hA
      simp [Aft, Region.binds] at haf
      obtain ⟨fb, fk, fs, oX, oR, f0, f1, f2, f3, f4, f5, f6, f7, f8, f9, f10, f13, s11, s12, m9, m10, d9_10⟩ := hF
      have g5 := f5 (by simp [haf])
      obtain ⟨t0, t1, t2, hT, k0, k1, k2⟩ := g5
      have e6 := rd HA.out 6 (by kernel_rfl) hT
      refine ⟨?_⟩
      go_simp
      refine hK (upd U 14 t2) _ _ ?_ ?_
      · rw [HA.out]; kernel_rfl
      · exact ⟨fb, fk, fs, oX, oR, f0, f1, f2, f3, f4, f5, f6, f7, (fun _ => k2), f9, f10, f13, s11, s12, m9, m10, d9_10⟩
    refine StepsU.run rfl ?_ ?_
    · intro L U wr hF hlk haf A K hA hK
      have HA : Hid (A = putAll _ _ U) := hA
      clear hA
      simp [Aft, Region.binds] at haf
      obtain ⟨fb, fk, fs, oX, oR, f0, f1, f2, f3, f4, f5, f6, f7, f8, f9, f10, f13, s11, s12, m9, m10, d9_10⟩ := hF
      have hst : L 11 = false := by cases h : L 11 with | false => rfl | true => rw [m9 h] at hlk; cases hlk
      refine ⟨?_⟩
      go_simp
      have hb := below_new wr (.cells #[.bool false, .slice none 0 0] 33 (0, 0))
      refine hK (upd U 3 (.pointer (some ⟨wr.heap.size, 0, none⟩))) _ _ ?_ ?_
      · rw [HA.out]; kernel_rfl
      · exact ⟨(fb.step hb (Nat.le_refl _)), (fk.trans (KeepI.below hb)), (Nat.le_trans fs hb.size), (oX.stay hb), (oR.stay hb), (mv mo_is (KeepI.below hb) f0), (mv mo_is (KeepI.below hb) f1), (mv mo_is (KeepI.below hb) f2), (mv mo_rnm (KeepI.below hb) f3), (mv (mo_t3 mo_rnm mo_rnm mo_is) (KeepI.below hb) f4), (mv (mo_t3 mo_rnm mo_rnm mo_is) (KeepI.below hb) f5), (mv mo_rnm (KeepI.below hb) f6), (mv mo_rnm (KeepI.below hb) f7), (mv mo_is (KeepI.below hb) f8), (fun _ => new_zero hst (NEW.mk fs (noI2 _ _ _ _))), (fun h => (f10 h).below hb), (mv mo_is (KeepI.below hb) f13), s11, s12, (fun _ => rfl), m10, (fun _ h => (f10 h).apart.symm)⟩
    refine StepsU.run rfl ?_ ?_
    · intro L U wr hF hlk haf A K hA hK
      have HA : Hid (A = putAll _ _ U) := hA
      clear hA
      simp [Aft, Region.binds] at haf
      obtain ⟨fb, fk, fs, oX, oR, f0, f1, f2, f3, f4, f5, f6, f7, f8, f9, f10, f13, s11, s12, m9, m10, d9_10⟩ := hF
      have hst : L 12 = false := by cases h : L 12 with | false => rfl | true => rw [m10 h] at hlk; cases hlk
      refine ⟨?_⟩
      go_simp
      have hb := below_new wr (.cells #[.bool false, .slice none 0 0] 33 (0, 0))
      refine hK (upd U 4 (.pointer (some ⟨wr.heap.size, 0, none⟩))) _ _ ?_ ?_
      · rw [HA.out]; kernel_rfl
      · exact ⟨(fb.step hb (Nat.le_refl _)), (fk.trans (KeepI.below hb)), (Nat.le_trans fs hb.size), (oX.stay hb), (oR.stay hb), (mv mo_is (KeepI.below hb) f0), (mv mo_is (KeepI.below hb) f1), (mv mo_is (KeepI.below hb) f2), (mv mo_rnm (KeepI.below hb) f3), (mv (mo_t3 mo_rnm mo_rnm mo_is) (KeepI.below hb) f4), (mv (mo_t3 mo_rnm mo_rnm mo_is) (KeepI.below hb) f5), (mv mo_rnm (KeepI.below hb) f6), (mv mo_rnm (KeepI.below hb) f7), (mv mo_is (KeepI.below hb) f8), (fun h => (f9 h).below hb), (fun _ => new_zero hst (NEW.mk fs (noI2 _ _ _ _))), (mv mo_is (KeepI.below hb) f13), s11, s12, m9, (fun _ => rfl), (fun h _ => (f9 h).apart)⟩
    refine StepsU.run rfl ?_ ?_
    · intro L U wr hF hlk haf A K hA hK
      have HA : Hid (A = putAll _ _ U) := hA
      clear hA
      simp [Aft, Region.binds] at haf
      obtain ⟨fb, fk, fs, oX, oR, f0, f1, f2, f3, f4, f5, f6, f7, f8, f9, f10, f13, s11, s12, m9, m10, d9_10⟩ := hF
      have g6 := f6 (by simp [haf])
      obtain ⟨px, pa, pn, pc, hsrc⟩ := RNum.shape g6
      have e12 := rd HA.out 12 (by kernel_rfl) hsrc
      have gA := f9 (by simp [haf])
      simp only [hlk, cond_false] at gA
      obtain ⟨b, cs, hp, hBb, hcs, hblk, -⟩ := gA
      injection hcs with hcs
      subst hcs
      have e3 := rd HA.out 3 (by kernel_rfl) hp
      obtain ⟨c0, c1, q0, q1⟩ := hblk.two
      refine ⟨?_⟩
      go_simp
      have hk := keepI_two hblk px pa pn pc
      refine hK U _ _ ?_ ?_
      · exact HA.out
      · exact ⟨(below_store2 fb (Nat.le_trans hbw.size hBb) _ _), (fk.trans hk), (by simpa using fs), (oX.other2 (Nat.ne_of_gt (Nat.lt_of_lt_of_le ltX hBb)) _ _), (oR.other2 (Nat.ne_of_gt (Nat.lt_of_lt_of_le ltR hBb)) _ _), (mv mo_is hk f0), (mv mo_is hk f1), (mv mo_is hk f2), (mv mo_rnm hk f3), (mv (mo_t3 mo_rnm mo_rnm mo_is) hk f4), (mv (mo_t3 mo_rnm mo_rnm mo_is) hk f5), (mv mo_rnm hk f6), (mv mo_rnm hk f7), (mv mo_is hk f8), (fun _ => stored_new hp hsrc (NEW.over2 hBb hblk px pa pn pc)), (fun h => (f10 h).other2 (fun ee => ((d9_10 (by simp [haf]) h).symm) (ee.trans hp.symm)) _ _), (mv mo_is hk f13), (fun _ => by simp [haf]), s12, (fun _ => by simp [haf]), m10, d9_10⟩
    refine StepsU.run rfl ?_ ?_
    · intro L U wr hF hlk haf A K hA hK
      have HA : Hid (A = putAll _ _ U) := hA
      clear hA
      simp [Aft, Region.binds] at haf
      obtain ⟨fb, fk, fs, oX, oR, f0, f1, f2, f3, f4, f5, f6, f7, f8, f9, f10, f13, s11, s12, m9, m10, d9_10⟩ := hF
      have g7 := f7 (by simp [haf])
      obtain ⟨px, pa, pn, pc, hsrc⟩ := RNum.shape g7
      have e13 := rd HA.out 13 (by kernel_rfl) hsrc
      have gA := f10 (by simp [haf])
      simp only [hlk, cond_false] at gA
      obtain ⟨b, cs, hp, hBb, hcs, hblk, -⟩ := gA
      injection hcs with hcs
      subst hcs
      have e4 := rd HA.out 4 (by kernel_rfl) hp
      obtain ⟨c0, c1, q0, q1⟩ := hblk.two
      refine ⟨?_⟩
      go_simp
      have hk := keepI_two hblk px pa pn pc
      refine hK U _ _ ?_ ?_
      · exact HA.out
      · exact ⟨(below_store2 fb (Nat.le_trans hbw.size hBb) _ _), (fk.trans hk), (by simpa using fs), (oX.other2 (Nat.ne_of_gt (Nat.lt_of_lt_of_le ltX hBb)) _ _), (oR.other2 (Nat.ne_of_gt (Nat.lt_of_lt_of_le ltR hBb)) _ _), (mv mo_is hk f0), (mv mo_is hk f1), (mv mo_is hk f2), (mv mo_rnm hk f3), (mv (mo_t3 mo_rnm mo_rnm mo_is) hk f4), (mv (mo_t3 mo_rnm mo_rnm mo_is) hk f5), (mv mo_rnm hk f6), (mv mo_rnm hk f7), (mv mo_is hk f8), (fun h => (f9 h).other2 (fun ee => (d9_10 h (by simp [haf])) (ee.trans hp.symm)) _ _), (fun _ => stored_new hp hsrc (NEW.over2 hBb hblk px pa pn pc)), (mv mo_is hk f13), s11, (fun _ => by simp [haf]), m9, (fun _ => by simp [haf]), d9_10⟩
    refine StepsU.run rfl ?_ StepsU.nil
    · intro L U wr hF hlk haf A K hA hK
      have HA : Hid (A = putAll _ _ U) := hA
      clear hA
      simp [Aft, Region.binds] at haf
      obtain ⟨fb, fk, fs, oX, oR, f0, f1, f2, f3, f4, f5, f6, f7, f8, f9, f10, f13, s11, s12, m9, m10, d9_10⟩ := hF
      have g8 := f8 (by simp [haf])
      have e14 := rd HA.out 14 (by kernel_rfl) rfl
      refine ⟨?_⟩
      go_simp
      refine hK (upd U 5 (U 14)) _ _ ?_ ?_
      · rw [HA.out]; kernel_rfl
      · exact ⟨fb, fk, fs, oX, oR, f0, f1, f2, f3, f4, f5, f6, f7, f8, f9, f10, (fun _ => g8), s11, s12, m9, m10, d9_10⟩
  intro L U1 V1 hall hF
  have hbw0 := hbw
  clear hbw
  obtain ⟨hbw, fk, fs, oX, oR, f0, f1, f2, f3, f4, f5, f6, f7, f8, f9, f10, f13, s11, s12, m9, m10, d9_10⟩ := hF
  clear s11 s12 m9 m10
  have g0 := f0 (hall 0 (by decide))
  have g1 := f1 (hall 1 (by decide))
  have g2 := f2 (hall 2 (by decide))
  have g3 := f3 (hall 3 (by decide))
  have g4 := f4 (hall 4 (by decide))
  have g5 := f5 (hall 5 (by decide))
  have g6 := f6 (hall 6 (by decide))
  have g7 := f7 (hall 7 (by decide))
  have g8 := f8 (hall 8 (by decide))
  have g9 := f9 (hall 9 (by decide))
  rw [hall 11 (by decide), cond_true] at g9
  have g10 := f10 (hall 10 (by decide))
  rw [hall 12 (by decide), cond_true] at g10
  have g13 := f13 (hall 13 (by decide))
  replace d9_10 := d9_10 (hall 9 (by decide)) (hall 10 (by decide))
  clear hall f0 f1 f2 f3 f4 f5 f6 f7 f8 f9 f10 f13
  replace hX := hX.keepI fk
  obtain ⟨bP, csP, hpP, lbP, hcsP, oP, -⟩ := g9
  obtain ⟨xP, aP, nP, cP, hvP⟩ := RNum.shape g6
  have hP : RNum _ _ _ _ := g6
  rw [hvP] at hP
  rw [hvP] at hcsP
  injection hcsP with hcsP
  subst hcsP
  have ltP := oP.lt
  obtain ⟨bO, csO, hpO, lbO, hcsO, oO, -⟩ := g10
  obtain ⟨xO, aO, nO, cO, hvO⟩ := RNum.shape g7
  have hO : RNum _ _ _ _ := g7
  rw [hvO] at hO
  rw [hvO] at hcsO
  injection hcsO with hcsO
  subst hcsO
  have ltO := oO.lt
  have nePO : bP ≠ bO := fun h => d9_10 (by rw [hpP, hpO, h])
  clear d9_10
  have neXP : w.heap.size ≠ bP := Nat.ne_of_lt (Nat.lt_of_lt_of_le ltX lbP)
  have neRP : w.heap.size + 1 ≠ bP := Nat.ne_of_lt (Nat.lt_of_lt_of_le ltR lbP)
  have lwP : w.heap.size ≤ bP := Nat.le_trans hbw0.size lbP
  have neXO : w.heap.size ≠ bO := Nat.ne_of_lt (Nat.lt_of_lt_of_le ltX lbO)
  have neRO : w.heap.size + 1 ≠ bO := Nat.ne_of_lt (Nat.lt_of_lt_of_le ltR lbO)
  have lwO : w.heap.size ≤ bO := Nat.le_trans hbw0.size lbO
  clear lbP lbO
  replace ltX := Nat.lt_of_lt_of_le ltX fs
  replace ltR := Nat.lt_of_lt_of_le ltR fs
  clear g0
  clear g1
  clear g2
  clear g3
  clear g4
  clear g5
  clear g6
  clear g7
  clear g8
  clear g13
  clear hbw0
  simp only [setM_some, setM_none, setM_nil]
  rw [hpP, hpO]
  clear hpP hpO hvP hvO
  clear fk fs
  obtain ⟨Pc0, Pc1, Pq0, Pq1⟩ := oP.two
  obtain ⟨Rc0, Rc1, Rq0, Rq1⟩ := oR.two
  try simp only []
  try go_at_K
  repeat (first | go_values | go_skip | go_guarded | go_step | go_upon)
  refine bodyPost_ret (v := (.agg #[.bool xP, .slice aP nP cP])) (by simp [results, Try.results32, go_sem, Rc0, Rc1]) rfl ?_
  refine ⟨_, _, _, _, rfl, ?_, below_store2 hbw (by omega) _ _⟩
  rw [floor_is] at hP
  exact hP.store2 oR _ _ _ _

set_option maxRecDepth 20000 in
set_option maxHeartbeats 8000000 in
theorem rlowest_pos (vA vC : Value) (x1 y1 : Int) (N : Nat) (w : World) (hA : RNum w vA x1 N) (hC : RNum w vC y1 N) (hy : 0 < y1) (hN : N ≤ 4000) :
    Calls Try.prog 57 #[vA, vC] w fun e w' => ∃ s1 s2 s3 s4 s5 s6 s7 s8, e = .returned (.agg #[.bool s1, .slice s2 s3 s4, .bool s5, .slice s6 s7 s8]) ∧ QRP w' s1 s2 s3 s4 s5 s6 s7 s8 (Rat.divInt x1 y1) (2 * N + 30) ∧ Below w.heap.size w w' := by
  obtain ⟨xA, aA, nA, cA, rfl⟩ := hA.shape
  obtain ⟨xC, aC, nC, cC, rfl⟩ := hC.shape
  obtain rfl : xC = false := by rw [rnum_neg hC]; simp; omega
  have HN : Hid (N ≤ 4000 ∧ N ≤ 10000) := ⟨hN, by omega⟩
  have HY : Hid (0 < y1) := hy
  clear hN hy
  have oA := (((Blk.new w 33 #[.bool xA, .slice aA nA cA]).alloc (.cells #[.bool false, .slice aC nC cC] 33 (0, 0))).alloc (.cells #[.bool false, .slice none 0 0, .bool false, .slice none 0 0] 35 (0, 0)))
  have oC := ((Blk.new (w.alloc (.cells #[.bool xA, .slice aA nA cA] 33 (0, 0))) 33 #[.bool false, .slice aC nC cC]).alloc (.cells #[.bool false, .slice none 0 0, .bool false, .slice none 0 0] 35 (0, 0)))
  have oR := (Blk.new ((w.alloc (.cells #[.bool xA, .slice aA nA cA] 33 (0, 0))).alloc (.cells #[.bool false, .slice aC nC cC] 33 (0, 0))) 35 #[.bool false, .slice none 0 0, .bool false, .slice none 0 0])
  simp only [World.size_alloc] at oC oR
  have hbw : Below w.heap.size w (((w.alloc (.cells #[.bool xA, .slice aA nA cA] 33 (0, 0))).alloc (.cells #[.bool false, .slice aC nC cC] 33 (0, 0))).alloc (.cells #[.bool false, .slice none 0 0, .bool false, .slice none 0 0] 35 (0, 0))) := by go_grown
  replace hA := hA.below hbw
  replace hC := hC.below hbw
  have ltA := oA.lt
  have ltC := oC.lt
  have ltR := oR.lt
  go_enter Try.func57, Try.ntmps57
  obtain ⟨Ac0, Ac1, Aq0, Aq1⟩ := oA.two
  obtain ⟨Cc0, Cc1, Cq0, Cq1⟩ := oC.two
  go_wp2_with fail
  refine (rGcd_L _ _ x1 y1 _ N _ hA hC HN.out.1 rfl).mono ?_
  rintro e w1 ⟨xG, aG', nG, cG, rfl, hG, hb⟩
  clear Ac0 Ac1 Aq0 Aq1
  clear Cc0 Cc1 Cq0 Cq1
  replace oA := oA.stay hb
  replace ltA := oA.lt
  replace oC := oC.stay hb
  replace ltC := oC.lt
  replace oR := oR.stay hb
  replace ltR := oR.lt
  replace hA := hA.below hb
  replace hC := hC.below hb
  replace hbw := hbw.step hb (Nat.le_refl _)
  clear hb
  have hn := below_new w1 (.cells #[.bool xG, .slice aG' nG cG] 33 (0, 0))
  have oG := Blk.new w1 33 #[.bool xG, .slice aG' nG cG]
  have neAG : w.heap.size ≠ w1.heap.size := Nat.ne_of_lt ltA
  have neCG : w.heap.size + 1 ≠ w1.heap.size := Nat.ne_of_lt ltC
  have neRG : w.heap.size + 1 + 1 ≠ w1.heap.size := Nat.ne_of_lt ltR
  have lwG : w.heap.size ≤ w1.heap.size := hbw.size
  replace oA := oA.stay hn
  replace ltA := oA.lt
  replace oC := oC.stay hn
  replace ltC := oC.lt
  replace oR := oR.stay hn
  replace ltR := oR.lt
  replace hA := hA.below hn
  replace hC := hC.below hn
  replace hG := hG.below hn
  replace hbw := hbw.step hn (Nat.le_refl _)
  clear hn
  have ltG := oG.lt
  obtain ⟨g1, HG⟩ : ∃ g, Hid (((Int.gcd x1 y1 : Nat) : Int) = g) := ⟨_, rfl⟩
  rw [HG.out] at hG
  have HG0 : Hid (g1 ≠ 0) := by show _ ≠ _; rw [← HG.out]; exact Int.ne_of_gt (gcdz_pos (by have := HY.out; omega))
  obtain ⟨Ac0, Ac1, Aq0, Aq1⟩ := oA.two
  obtain ⟨Gc0, Gc1, Gq0, Gq1⟩ := oG.two
  go_wp2_with fail
  refine (rDiv_L _ _ x1 g1 N _ hA hG HN.out.1 HG0.out).mono ?_
  rintro e w2 ⟨xP, aP, nP, cP, xO, aO, nO, cO, rfl, hP, hO, hb⟩
  clear Ac0 Ac1 Aq0 Aq1
  clear Gc0 Gc1 Gq0 Gq1
  replace oA := oA.stay hb
  replace ltA := oA.lt
  replace oC := oC.stay hb
  replace ltC := oC.lt
  replace oR := oR.stay hb
  replace ltR := oR.lt
  replace oG := oG.stay hb
  replace ltG := oG.lt
  replace hA := hA.below hb
  replace hC := hC.below hb
  replace hG := hG.below hb
  replace hbw := hbw.step hb (Nat.le_refl _)
  clear hb
  have hn := below_new w2 (.cells #[.bool xP, .slice aP nP cP] 33 (0, 0))
  have oP := Blk.new w2 33 #[.bool xP, .slice aP nP cP]
  have neAP : w.heap.size ≠ w2.heap.size := Nat.ne_of_lt ltA
  have neCP : w.heap.size + 1 ≠ w2.heap.size := Nat.ne_of_lt ltC
  have neRP : w.heap.size + 1 + 1 ≠ w2.heap.size := Nat.ne_of_lt ltR
  have neGP : w1.heap.size ≠ w2.heap.size := Nat.ne_of_lt ltG
  have lwP : w.heap.size ≤ w2.heap.size := hbw.size
  replace oA := oA.stay hn
  replace ltA := oA.lt
  replace oC := oC.stay hn
  replace ltC := oC.lt
  replace oR := oR.stay hn
  replace ltR := oR.lt
  replace oG := oG.stay hn
  replace ltG := oG.lt
  replace hA := hA.below hn
  replace hC := hC.below hn
  replace hG := hG.below hn
  replace hP := hP.below hn
  replace hO := hO.below hn
  replace hbw := hbw.step hn (Nat.le_refl _)
  clear hn
  have ltP := oP.lt
  have hn := below_new (w2.alloc (.cells #[.bool xP, .slice aP nP cP] 33 (0, 0))) (.cells #[.bool xO, .slice aO nO cO] 33 (0, 0))
  have oO := Blk.new (w2.alloc (.cells #[.bool xP, .slice aP nP cP] 33 (0, 0))) 33 #[.bool xO, .slice aO nO cO]
  simp only [World.size_alloc] at oO
  have neAO : w.heap.size ≠ w2.heap.size + 1 := by have := ltA; simp at this; omega
  have neCO : w.heap.size + 1 ≠ w2.heap.size + 1 := by have := ltC; simp at this; omega
  have neRO : w.heap.size + 1 + 1 ≠ w2.heap.size + 1 := by have := ltR; simp at this; omega
  have neGO : w1.heap.size ≠ w2.heap.size + 1 := by have := ltG; simp at this; omega
  have nePO : w2.heap.size ≠ w2.heap.size + 1 := by have := ltP; simp at this; omega
  replace oA := oA.stay hn
  replace ltA := oA.lt
  replace oC := oC.stay hn
  replace ltC := oC.lt
  replace oR := oR.stay hn
  replace ltR := oR.lt
  replace oG := oG.stay hn
  replace ltG := oG.lt
  replace oP := oP.stay hn
  replace ltP := oP.lt
  replace hA := hA.below hn
  replace hC := hC.below hn
  replace hG := hG.below hn
  replace hP := hP.below hn
  replace hO := hO.below hn
  replace hbw := hbw.step hn (Nat.le_refl _)
  clear hn
  have ltO := oO.lt
  obtain ⟨Cc0, Cc1, Cq0, Cq1⟩ := oC.two
  obtain ⟨Gc0, Gc1, Gq0, Gq1⟩ := oG.two
  go_wp2_with fail
  refine (rDiv_L _ _ y1 g1 N _ hC hG HN.out.1 HG0.out).mono ?_
  rintro e w3 ⟨xQ, aQ, nQ, cQ, xS, aS, nS, cS, rfl, hQ, hS, hb⟩
  clear Cc0 Cc1 Cq0 Cq1
  clear Gc0 Gc1 Gq0 Gq1
  replace oA := oA.stay hb
  replace ltA := oA.lt
  replace oC := oC.stay hb
  replace ltC := oC.lt
  replace oR := oR.stay hb
  replace ltR := oR.lt
  replace oG := oG.stay hb
  replace ltG := oG.lt
  replace oP := oP.stay hb
  replace ltP := oP.lt
  replace oO := oO.stay hb
  replace ltO := oO.lt
  replace hA := hA.below hb
  replace hC := hC.below hb
  replace hG := hG.below hb
  replace hP := hP.below hb
  replace hO := hO.below hb
  replace hbw := hbw.step hb (Nat.le_refl _)
  clear hb
  have hn := below_new w3 (.cells #[.bool xQ, .slice aQ nQ cQ] 33 (0, 0))
  have oQ := Blk.new w3 33 #[.bool xQ, .slice aQ nQ cQ]
  have neAQ : w.heap.size ≠ w3.heap.size := Nat.ne_of_lt ltA
  have neCQ : w.heap.size + 1 ≠ w3.heap.size := Nat.ne_of_lt ltC
  have neRQ : w.heap.size + 1 + 1 ≠ w3.heap.size := Nat.ne_of_lt ltR
  have neGQ : w1.heap.size ≠ w3.heap.size := Nat.ne_of_lt ltG
  have nePQ : w2.heap.size ≠ w3.heap.size := Nat.ne_of_lt ltP
  have neOQ : w2.heap.size + 1 ≠ w3.heap.size := Nat.ne_of_lt ltO
  have lwQ : w.heap.size ≤ w3.heap.size := hbw.size
  replace oA := oA.stay hn
  replace ltA := oA.lt
  replace oC := oC.stay hn
  replace ltC := oC.lt
  replace oR := oR.stay hn
  replace ltR := oR.lt
  replace oG := oG.stay hn
  replace ltG := oG.lt
  replace oP := oP.stay hn
  replace ltP := oP.lt
  replace oO := oO.stay hn
  replace ltO := oO.lt
  replace hA := hA.below hn
  replace hC := hC.below hn
  replace hG := hG.below hn
  replace hP := hP.below hn
  replace hO := hO.below hn
  replace hQ := hQ.below hn
  replace hS := hS.below hn
  replace hbw := hbw.step hn (Nat.le_refl _)
  clear hn
  have ltQ := oQ.lt
  have hn := below_new (w3.alloc (.cells #[.bool xQ, .slice aQ nQ cQ] 33 (0, 0))) (.cells #[.bool xS, .slice aS nS cS] 33 (0, 0))
  have oS := Blk.new (w3.alloc (.cells #[.bool xQ, .slice aQ nQ cQ] 33 (0, 0))) 33 #[.bool xS, .slice aS nS cS]
  simp only [World.size_alloc] at oS
  have neAS : w.heap.size ≠ w3.heap.size + 1 := by have := ltA; simp at this; omega
  have neCS : w.heap.size + 1 ≠ w3.heap.size + 1 := by have := ltC; simp at this; omega
  have neRS : w.heap.size + 1 + 1 ≠ w3.heap.size + 1 := by have := ltR; simp at this; omega
  have neGS : w1.heap.size ≠ w3.heap.size + 1 := by have := ltG; simp at this; omega
  have nePS : w2.heap.size ≠ w3.heap.size + 1 := by have := ltP; simp at this; omega
  have neOS : w2.heap.size + 1 ≠ w3.heap.size + 1 := by have := ltO; simp at this; omega
  have neQS : w3.heap.size ≠ w3.heap.size + 1 := by have := ltQ; simp at this; omega
  replace oA := oA.stay hn
  replace ltA := oA.lt
  replace oC := oC.stay hn
  replace ltC := oC.lt
  replace oR := oR.stay hn
  replace ltR := oR.lt
  replace oG := oG.stay hn
  replace ltG := oG.lt
  replace oP := oP.stay hn
  replace ltP := oP.lt
  replace oO := oO.stay hn
  replace ltO := oO.lt
  replace oQ := oQ.stay hn
  replace ltQ := oQ.lt
  replace hA := hA.below hn
  replace hC := hC.below hn
  replace hG := hG.below hn
  replace hP := hP.below hn
  replace hO := hO.below hn
  replace hQ := hQ.below hn
  replace hS := hS.below hn
  replace hbw := hbw.step hn (Nat.le_refl _)
  clear hn
  have ltS := oS.lt
  have HP : Hid ((Rat.divInt x1 y1).num = x1.fdiv g1 ∧ ((Rat.divInt x1 y1).den : Int) = y1.fdiv g1) := by
    rw [← HG.out]
    exact divInt_parts HY.out
  obtain ⟨Pc0, Pc1, Pq0, Pq1⟩ := oP.two
  obtain ⟨Qc0, Qc1, Qq0, Qq1⟩ := oQ.two
  obtain ⟨Rc0, Rc1, Rc2, Rc3⟩ := oR.four
  obtain ⟨Rq0, Rq1, Rq2, Rq3⟩ := oR.frozen4
  try simp only []
  try go_at_K
  repeat (first | go_values | go_skip | go_guarded | go_step | go_upon)
  refine bodyPost_ret (v := (.agg #[.bool xP, .slice aP nP cP, .bool xQ, .slice aQ nQ cQ])) (by simp [results, Try.results57, go_sem, Rc0, Rc1, Rc2, Rc3]) rfl ?_
  refine ⟨_, _, _, _, _, _, _, _, rfl, QRP.keepI (w := ((w3.alloc (.cells #[.bool xQ, .slice aQ nQ cQ] 33 (0, 0))).alloc (.cells #[.bool xS, .slice aS nS cS] 33 (0, 0)))) ⟨by rw [HP.out.1]; exact hP, _, hQ, Or.inl HP.out.2.symm⟩ (keepI_four (noI_slice _ _ _) (noI_slice _ _ _) oR _ _ _ _ _ _ _ _), below_store4 hbw (by omega) _ _ _ _⟩

set_option maxRecDepth 20000 in
set_option maxHeartbeats 8000000 in
theorem rlowest_neg (vA vC : Value) (x1 y1 : Int) (N : Nat) (w : World) (hA : RNum w vA x1 N) (hC : RNum w vC y1 N) (hy : y1 < 0) (hN : N ≤ 4000) :
    Calls Try.prog 57 #[vA, vC] w fun e w' => ∃ s1 s2 s3 s4 s5 s6 s7 s8, e = .returned (.agg #[.bool s1, .slice s2 s3 s4, .bool s5, .slice s6 s7 s8]) ∧ QRP w' s1 s2 s3 s4 s5 s6 s7 s8 (Rat.divInt x1 y1) (2 * N + 30) ∧ Below w.heap.size w w' := by
  obtain ⟨xA, aA, nA, cA, rfl⟩ := hA.shape
  obtain ⟨xC, aC, nC, cC, rfl⟩ := hC.shape
  obtain rfl : xC = true := by rw [rnum_neg hC]; simp; omega
  have HN : Hid (N ≤ 4000 ∧ N ≤ 10000) := ⟨hN, by omega⟩
  have HY : Hid (y1 < 0) := hy
  clear hN hy
  have oA := (((Blk.new w 33 #[.bool xA, .slice aA nA cA]).alloc (.cells #[.bool true, .slice aC nC cC] 33 (0, 0))).alloc (.cells #[.bool false, .slice none 0 0, .bool false, .slice none 0 0] 35 (0, 0)))
  have oC := ((Blk.new (w.alloc (.cells #[.bool xA, .slice aA nA cA] 33 (0, 0))) 33 #[.bool true, .slice aC nC cC]).alloc (.cells #[.bool false, .slice none 0 0, .bool false, .slice none 0 0] 35 (0, 0)))
  have oR := (Blk.new ((w.alloc (.cells #[.bool xA, .slice aA nA cA] 33 (0, 0))).alloc (.cells #[.bool true, .slice aC nC cC] 33 (0, 0))) 35 #[.bool false, .slice none 0 0, .bool false, .slice none 0 0])
  simp only [World.size_alloc] at oC oR
  have hbw : Below w.heap.size w (((w.alloc (.cells #[.bool xA, .slice aA nA cA] 33 (0, 0))).alloc (.cells #[.bool true, .slice aC nC cC] 33 (0, 0))).alloc (.cells #[.bool false, .slice none 0 0, .bool false, .slice none 0 0] 35 (0, 0))) := by go_grown
  replace hA := hA.below hbw
  replace hC := hC.below hbw
  have ltA := oA.lt
  have ltC := oC.lt
  have ltR := oR.lt
  go_enter Try.func57, Try.ntmps57
  obtain ⟨Cc0, Cc1, Cq0, Cq1⟩ := oC.two
  go_wp2
  clear Cc0 Cc1 Cq0 Cq1
  generalize (((w.alloc (.cells #[.bool xA, .slice aA nA cA] 33 (0, 0))).alloc (.cells #[.bool true, .slice aC nC cC] 33 (0, 0))).alloc (.cells #[.bool false, .slice none 0 0, .bool false, .slice none 0 0] 35 (0, 0))) = W0 at hbw oA oC oR ltA ltC ltR hA hC ⊢
  have rA := oA
  clear oA
  have geA : w.heap.size ≤ w.heap.size := by omega
  have neAR : w.heap.size ≠ w.heap.size + 1 + 1 := by omega
  have neAC : w.heap.size ≠ w.heap.size + 1 := by omega
  have rC := oC
  clear oC
  have geC : w.heap.size ≤ w.heap.size + 1 := by omega
  have neCR : w.heap.size + 1 ≠ w.heap.size + 1 + 1 := by omega
  have neCA := neAC.symm
  refine wp_region_M (by kernel_rfl) [14, 15, 16, 17] [none, none, none, none, none, none, none, none, none, none, none, none, none, none, some 14, some 15, some 16, some 17] (fun U => by kernel_rfl) (fun L U wr => Below w.heap.size w wr ∧ KeepI W0 wr ∧ W0.heap.size ≤ wr.heap.size ∧ Blk 35 wr (w.heap.size + 1 + 1) #[.bool false, .slice none 0 0, .bool false, .slice none 0 0] ∧ BlkV 33 wr (w.heap.size) (bif L 4 then U 15 else .agg #[.bool xA, .slice aA nA cA]) ∧ BlkV 33 wr (w.heap.size + 1) (bif L 5 then U 17 else .agg #[.bool true, .slice aC nC cC]) ∧ (L 0 = true → IS (.agg #[.bool xA, .slice aA nA cA]) (U 14) wr) ∧ (L 1 = true → RNM (-x1) N (U 15) wr) ∧ (L 2 = true → IS (.agg #[.bool true, .slice aC nC cC]) (U 16) wr) ∧ (L 3 = true → RNM (-y1) N (U 17) wr) ∧ (L 4 = true → L 1 = true) ∧ (L 5 = true → L 3 = true) ∧ (L 4 = true → L 0 = true) ∧ (L 5 = true → L 2 = true)) (by kernel_rfl) ?_ ?_ ?_
  · exact fun U => ⟨hbw.drew, KeepI.below (Below.refl _ _).drew, Nat.le_refl _, oR.drew, ⟨_, rfl, rA.drew⟩, ⟨_, rfl, rC.drew⟩, (fun h => by cases h), (fun h => by cases h), (fun h => by cases h), (fun h => by cases h), (fun h => by cases h), (fun h => by cases h), (fun h => by cases h), (fun h => by cases h)⟩
  · refine StepsU.run rfl ?_ ?_
    · intro L U wr hF hlk haf A K hA hK
      have HA : Hid (A = putAll _ _ U) := hA
      clear hA
      simp [Aft, Region.binds] at haf
      obtain ⟨fb, fk, fs, oR, rA, rC, f0, f1, f2, f3, s4, s5, y0, y2⟩ := hF
      have e2 : A.tmps[2]? = some (.pointer (some ⟨w.heap.size, 0, none⟩)) := by rw [HA.out]; kernel_rfl
      have hst : L 4 = false := by cases h : L 4 with | false => rfl | true => rw [y0 h] at hlk; cases hlk
      have rV := rA
      rw [hst, cond_false] at rV
      obtain ⟨cs, hcs, hblk⟩ := rV
      injection hcs with hcs
      subst hcs
      obtain ⟨c0, c1, -, -⟩ := hblk.two
      refine ⟨?_⟩
      go_simp
      refine hK (upd U 14 (.agg #[.bool xA, .slice aA nA cA])) _ _ ?_ ?_
      · rw [HA.out]; kernel_rfl
      · exact ⟨fb, fk, fs, oR, rA, rC, (fun _ => rfl), f1, f2, f3, s4, s5, (fun _ => rfl), y2⟩
    refine StepsU.run rfl ?_ ?_
    · intro L U wr hF hlk haf A K hA hK
      have HA : Hid (A = putAll _ _ U) := hA
      clear hA
      simp [Aft, Region.binds] at haf
      obtain ⟨fb, fk, fs, oR, rA, rC, f0, f1, f2, f3, s4, s5, y0, y2⟩ := hF
      have g0 := f0 (by simp [haf])
      have e14 := rd HA.out 14 (by kernel_rfl) g0
      refine ⟨?_⟩
      go_simp
      refine (rneg_any _ x1 N _ (hA.keepI fk) HN.out.2).mono ?_
      rintro e w1 ⟨u1, u2, u3, u4, rfl, hr, hb⟩
      go_simp
      have hs4 : L 4 = false := by cases h : L 4 with | false => rfl | true => rw [s4 h] at hlk; cases hlk
      refine hK (upd U 15 (.agg #[.bool u1, .slice u2 u3 u4])) _ _ ?_ ?_
      · rw [HA.out]; kernel_rfl
      · exact ⟨(fb.step hb (Nat.le_refl _)), (fk.trans (KeepI.below hb)), (Nat.le_trans fs hb.size), (oR.stay hb), (flip_v (P := fun v => BlkV _ _ _ v) hs4 (rA.stay hb)), (rC.stay hb), (mv mo_is (KeepI.below hb) f0), (fun _ => hr), (mv mo_is (KeepI.below hb) f2), (mv mo_rnm (KeepI.below hb) f3), (fun _ => rfl), s5, y0, y2⟩
    refine StepsU.run rfl ?_ ?_
    · intro L U wr hF hlk haf A K hA hK
      have HA : Hid (A = putAll _ _ U) := hA
      clear hA
      simp [Aft, Region.binds] at haf
      obtain ⟨fb, fk, fs, oR, rA, rC, f0, f1, f2, f3, s4, s5, y0, y2⟩ := hF
      have e3 : A.tmps[3]? = some (.pointer (some ⟨w.heap.size + 1, 0, none⟩)) := by rw [HA.out]; kernel_rfl
      have hst : L 5 = false := by cases h : L 5 with | false => rfl | true => rw [y2 h] at hlk; cases hlk
      have rV := rC
      rw [hst, cond_false] at rV
      obtain ⟨cs, hcs, hblk⟩ := rV
      injection hcs with hcs
      subst hcs
      obtain ⟨c0, c1, -, -⟩ := hblk.two
      refine ⟨?_⟩
      go_simp
      refine hK (upd U 16 (.agg #[.bool true, .slice aC nC cC])) _ _ ?_ ?_
      · rw [HA.out]; kernel_rfl
      · exact ⟨fb, fk, fs, oR, rA, rC, f0, f1, (fun _ => rfl), f3, s4, s5, y0, (fun _ => rfl)⟩
    refine StepsU.run rfl ?_ ?_
    · intro L U wr hF hlk haf A K hA hK
      have HA : Hid (A = putAll _ _ U) := hA
      clear hA
      simp [Aft, Region.binds] at haf
      obtain ⟨fb, fk, fs, oR, rA, rC, f0, f1, f2, f3, s4, s5, y0, y2⟩ := hF
      have g2 := f2 (by simp [haf])
      have e16 := rd HA.out 16 (by kernel_rfl) g2
      refine ⟨?_⟩
      go_simp
      refine (rneg_any _ y1 N _ (hC.keepI fk) HN.out.2).mono ?_
      rintro e w1 ⟨u1, u2, u3, u4, rfl, hr, hb⟩
      go_simp
      have hs5 : L 5 = false := by cases h : L 5 with | false => rfl | true => rw [s5 h] at hlk; cases hlk
      refine hK (upd U 17 (.agg #[.bool u1, .slice u2 u3 u4])) _ _ ?_ ?_
      · rw [HA.out]; kernel_rfl
      · exact ⟨(fb.step hb (Nat.le_refl _)), (fk.trans (KeepI.below hb)), (Nat.le_trans fs hb.size), (oR.stay hb), (rA.stay hb), (flip_v (P := fun v => BlkV _ _ _ v) hs5 (rC.stay hb)), (mv mo_is (KeepI.below hb) f0), (mv mo_rnm (KeepI.below hb) f1), (mv mo_is (KeepI.below hb) f2), (fun _ => hr), s4, (fun _ => rfl), y0, y2⟩
    refine StepsU.run rfl ?_ ?_
    · intro L U wr hF hlk haf A K hA hK
      have HA : Hid (A = putAll _ _ U) := hA
      clear hA
      simp [Aft, Region.binds] at haf
      obtain ⟨fb, fk, fs, oR, rA, rC, f0, f1, f2, f3, s4, s5, y0, y2⟩ := hF
      have g1 := f1 (by simp [haf])
      obtain ⟨px, pa, pn, pc, hsrc⟩ := RNum.shape g1
      have e15 := rd HA.out 15 (by kernel_rfl) hsrc
      have e2 : A.tmps[2]? = some (.pointer (some ⟨w.heap.size, 0, none⟩)) := by rw [HA.out]; kernel_rfl
      simp only [hlk, cond_false] at rA
      obtain ⟨cs, hcs, hblk⟩ := rA
      injection hcs with hcs
      subst hcs
      obtain ⟨c0, c1, q0, q1⟩ := hblk.two
      refine ⟨?_⟩
      go_simp
      have hk := keepI_two hblk px pa pn pc
      refine hK U _ _ ?_ ?_
      · exact HA.out
      · exact ⟨(below_store2 fb geA _ _), (fk.trans hk), (by simpa using fs), (oR.other2 neAR _ _), (stored_old hsrc (hblk.over2 _ _)), (rC.other2 neAC _ _), (mv mo_is hk f0), (mv mo_rnm hk f1), (mv mo_is hk f2), (mv mo_rnm hk f3), (fun _ => by simp [haf]), s5, (fun _ => by simp [haf]), y2⟩
    refine StepsU.run rfl ?_ StepsU.nil
    · intro L U wr hF hlk haf A K hA hK
      have HA : Hid (A = putAll _ _ U) := hA
      clear hA
      simp [Aft, Region.binds] at haf
      obtain ⟨fb, fk, fs, oR, rA, rC, f0, f1, f2, f3, s4, s5, y0, y2⟩ := hF
      have g3 := f3 (by simp [haf])
      obtain ⟨px, pa, pn, pc, hsrc⟩ := RNum.shape g3
      have e17 := rd HA.out 17 (by kernel_rfl) hsrc
      have e3 : A.tmps[3]? = some (.pointer (some ⟨w.heap.size + 1, 0, none⟩)) := by rw [HA.out]; kernel_rfl
      simp only [hlk, cond_false] at rC
      obtain ⟨cs, hcs, hblk⟩ := rC
      injection hcs with hcs
      subst hcs
      obtain ⟨c0, c1, q0, q1⟩ := hblk.two
      refine ⟨?_⟩
      go_simp
      have hk := keepI_two hblk px pa pn pc
      refine hK U _ _ ?_ ?_
      · exact HA.out
      · exact ⟨(below_store2 fb geC _ _), (fk.trans hk), (by simpa using fs), (oR.other2 neCR _ _), (rA.other2 neCA _ _), (stored_old hsrc (hblk.over2 _ _)), (mv mo_is hk f0), (mv mo_rnm hk f1), (mv mo_is hk f2), (mv mo_rnm hk f3), s4, (fun _ => by simp [haf]), y0, (fun _ => by simp [haf])⟩
  intro L U1 V1 hall hF
  have hbw0 := hbw
  clear hbw
  obtain ⟨hbw, fk, fs, oR, rA, rC, f0, f1, f2, f3, s4, s5, y0, y2⟩ := hF
  clear s4 s5 y0 y2
  have g0 := f0 (hall 0 (by decide))
  have g1 := f1 (hall 1 (by decide))
  have g2 := f2 (hall 2 (by decide))
  have g3 := f3 (hall 3 (by decide))
  rw [hall 4 (by decide), cond_true] at rA
  rw [hall 5 (by decide), cond_true] at rC
  clear hall f0 f1 f2 f3
  replace hA := hA.keepI fk
  replace hC := hC.keepI fk
  replace ltR := Nat.lt_of_lt_of_le ltR fs
  replace ltA := Nat.lt_of_lt_of_le ltA fs
  replace ltC := Nat.lt_of_lt_of_le ltC fs
  clear g0
  clear g2
  clear hbw0
  simp only [setM_some, setM_none, setM_nil]
  clear fk fs
  clear hA hC
  obtain ⟨xA2, aA2, nA2, cA2, hvA⟩ := RNum.shape g1
  have hA : RNum _ _ _ _ := g1
  rw [hvA] at hA rA
  obtain ⟨csA, hcsA, oA⟩ := rA
  injection hcsA with hcsA
  subst hcsA
  clear hvA g1
  obtain ⟨xC2, aC2, nC2, cC2, hvC⟩ := RNum.shape g3
  have hC : RNum _ _ _ _ := g3
  rw [hvC] at hC rC
  obtain ⟨csC, hcsC, oC⟩ := rC
  injection hcsC with hcsC
  subst hcsC
  clear hvC g3
  obtain ⟨Ac0, Ac1, Aq0, Aq1⟩ := oA.two
  obtain ⟨Cc0, Cc1, Cq0, Cq1⟩ := oC.two
  go_wp2_with fail
  refine (rGcd_L _ _ (-x1) (-y1) _ N _ hA hC HN.out.1 rfl).mono ?_
  rintro e w2 ⟨xG, aG', nG, cG, rfl, hG, hb⟩
  clear Ac0 Ac1 Aq0 Aq1
  clear Cc0 Cc1 Cq0 Cq1
  replace oA := oA.stay hb
  replace ltA := oA.lt
  replace oC := oC.stay hb
  replace ltC := oC.lt
  replace oR := oR.stay hb
  replace ltR := oR.lt
  replace hA := hA.below hb
  replace hC := hC.below hb
  replace hbw := hbw.step hb (Nat.le_refl _)
  clear hb
  have hn := below_new w2 (.cells #[.bool xG, .slice aG' nG cG] 33 (0, 0))
  have oG := Blk.new w2 33 #[.bool xG, .slice aG' nG cG]
  have neAG : w.heap.size ≠ w2.heap.size := Nat.ne_of_lt ltA
  have neCG : w.heap.size + 1 ≠ w2.heap.size := Nat.ne_of_lt ltC
  have neRG : w.heap.size + 1 + 1 ≠ w2.heap.size := Nat.ne_of_lt ltR
  have lwG : w.heap.size ≤ w2.heap.size := hbw.size
  replace oA := oA.stay hn
  replace ltA := oA.lt
  replace oC := oC.stay hn
  replace ltC := oC.lt
  replace oR := oR.stay hn
  replace ltR := oR.lt
  replace hA := hA.below hn
  replace hC := hC.below hn
  replace hG := hG.below hn
  replace hbw := hbw.step hn (Nat.le_refl _)
  clear hn
  have ltG := oG.lt
  obtain ⟨g1, HG⟩ : ∃ g, Hid (((Int.gcd (-x1) (-y1) : Nat) : Int) = g) := ⟨_, rfl⟩
  rw [HG.out] at hG
  have HG0 : Hid (g1 ≠ 0) := by show _ ≠ _; rw [← HG.out]; exact Int.ne_of_gt (gcdz_pos (by have := HY.out; omega))
  obtain ⟨Ac0, Ac1, Aq0, Aq1⟩ := oA.two
  obtain ⟨Gc0, Gc1, Gq0, Gq1⟩ := oG.two
  go_wp2_with fail
  refine (rDiv_L _ _ (-x1) g1 N _ hA hG HN.out.1 HG0.out).mono ?_
  rintro e w3 ⟨xP, aP, nP, cP, xO, aO, nO, cO, rfl, hP, hO, hb⟩
  clear Ac0 Ac1 Aq0 Aq1
  clear Gc0 Gc1 Gq0 Gq1
  replace oA := oA.stay hb
  replace ltA := oA.lt
  replace oC := oC.stay hb
  replace ltC := oC.lt
  replace oR := oR.stay hb
  replace ltR := oR.lt
  replace oG := oG.stay hb
  replace ltG := oG.lt
  replace hA := hA.below hb
  replace hC := hC.below hb
  replace hG := hG.below hb
  replace hbw := hbw.step hb (Nat.le_refl _)
  clear hb
  have hn := below_new w3 (.cells #[.bool xP, .slice aP nP cP] 33 (0, 0))
  have oP := Blk.new w3 33 #[.bool xP, .slice aP nP cP]
  have neAP : w.heap.size ≠ w3.heap.size := Nat.ne_of_lt ltA
  have neCP : w.heap.size + 1 ≠ w3.heap.size := Nat.ne_of_lt ltC
  have neRP : w.heap.size + 1 + 1 ≠ w3.heap.size := Nat.ne_of_lt ltR
  have neGP : w2.heap.size ≠ w3.heap.size := Nat.ne_of_lt ltG
  have lwP : w.heap.size ≤ w3.heap.size := hbw.size
  replace oA := oA.stay hn
  replace ltA := oA.lt
  replace oC := oC.stay hn
  replace ltC := oC.lt
  replace oR := oR.stay hn
  replace ltR := oR.lt
  replace oG := oG.stay hn
  replace ltG := oG.lt
  replace hA := hA.below hn
  replace hC := hC.below hn
  replace hG := hG.below hn
  replace hP := hP.below hn
  replace hO := hO.below hn
  replace hbw := hbw.step hn (Nat.le_refl _)
  clear hn
  have ltP := oP.lt
  have hn := below_new (w3.alloc (.cells #[.bool xP, .slice aP nP cP] 33 (0, 0))) (.cells #[.bool xO, .slice aO nO cO] 33 (0, 0))
  have oO := Blk.new (w3.alloc (.cells #[.bool xP, .slice aP nP cP] 33 (0, 0))) 33 #[.bool xO, .slice aO nO cO]
  simp only [World.size_alloc] at oO
  have neAO : w.heap.size ≠ w3.heap.size + 1 := by have := ltA; simp at this; omega
  have neCO : w.heap.size + 1 ≠ w3.heap.size + 1 := by have := ltC; simp at this; omega
  have neRO : w.heap.size + 1 + 1 ≠ w3.heap.size + 1 := by have := ltR; simp at this; omega
  have neGO : w2.heap.size ≠ w3.heap.size + 1 := by have := ltG; simp at this; omega
  have nePO : w3.heap.size ≠ w3.heap.size + 1 := by have := ltP; simp at this; omega
  replace oA := oA.stay hn
  replace ltA := oA.lt
  replace oC := oC.stay hn
  replace ltC := oC.lt
  replace oR := oR.stay hn
  replace ltR := oR.lt
  replace oG := oG.stay hn
  replace ltG := oG.lt
  replace oP := oP.stay hn
  replace ltP := oP.lt
  replace hA := hA.below hn
  replace hC := hC.below hn
  replace hG := hG.below hn
  replace hP := hP.below hn
  replace hO := hO.below hn
  replace hbw := hbw.step hn (Nat.le_refl _)
  clear hn
  have ltO := oO.lt
  obtain ⟨Cc0, Cc1, Cq0, Cq1⟩ := oC.two
  obtain ⟨Gc0, Gc1, Gq0, Gq1⟩ := oG.two
  go_wp2_with fail
  refine (rDiv_L _ _ (-y1) g1 N _ hC hG HN.out.1 HG0.out).mono ?_
  rintro e w4 ⟨xQ, aQ, nQ, cQ, xS, aS, nS, cS, rfl, hQ, hS, hb⟩
  clear Cc0 Cc1 Cq0 Cq1
  clear Gc0 Gc1 Gq0 Gq1
  replace oA := oA.stay hb
  replace ltA := oA.lt
  replace oC := oC.stay hb
  replace ltC := oC.lt
  replace oR := oR.stay hb
  replace ltR := oR.lt
  replace oG := oG.stay hb
  replace ltG := oG.lt
  replace oP := oP.stay hb
  replace ltP := oP.lt
  replace oO := oO.stay hb
  replace ltO := oO.lt
  replace hA := hA.below hb
  replace hC := hC.below hb
  replace hG := hG.below hb
  replace hP := hP.below hb
  replace hO := hO.below hb
  replace hbw := hbw.step hb (Nat.le_refl _)
  clear hb
  have hn := below_new w4 (.cells #[.bool xQ, .slice aQ nQ cQ] 33 (0, 0))
  have oQ := Blk.new w4 33 #[.bool xQ, .slice aQ nQ cQ]
  have neAQ : w.heap.size ≠ w4.heap.size := Nat.ne_of_lt ltA
  have neCQ : w.heap.size + 1 ≠ w4.heap.size := Nat.ne_of_lt ltC
  have neRQ : w.heap.size + 1 + 1 ≠ w4.heap.size := Nat.ne_of_lt ltR
  have neGQ : w2.heap.size ≠ w4.heap.size := Nat.ne_of_lt ltG
  have nePQ : w3.heap.size ≠ w4.heap.size := Nat.ne_of_lt ltP
  have neOQ : w3.heap.size + 1 ≠ w4.heap.size := Nat.ne_of_lt ltO
  have lwQ : w.heap.size ≤ w4.heap.size := hbw.size
  replace oA := oA.stay hn
  replace ltA := oA.lt
  replace oC := oC.stay hn
  replace ltC := oC.lt
  replace oR := oR.stay hn
  replace ltR := oR.lt
  replace oG := oG.stay hn
  replace ltG := oG.lt
  replace oP := oP.stay hn
  replace ltP := oP.lt
  replace oO := oO.stay hn
  replace ltO := oO.lt
  replace hA := hA.below hn
  replace hC := hC.below hn
  replace hG := hG.below hn
  replace hP := hP.below hn
  replace hO := hO.below hn
  replace hQ := hQ.below hn
  replace hS := hS.below hn
  replace hbw := hbw.step hn (Nat.le_refl _)
  clear hn
  have ltQ := oQ.lt
  have hn := below_new (w4.alloc (.cells #[.bool xQ, .slice aQ nQ cQ] 33 (0, 0))) (.cells #[.bool xS, .slice aS nS cS] 33 (0, 0))
  have oS := Blk.new (w4.alloc (.cells #[.bool xQ, .slice aQ nQ cQ] 33 (0, 0))) 33 #[.bool xS, .slice aS nS cS]
  simp only [World.size_alloc] at oS
  have neAS : w.heap.size ≠ w4.heap.size + 1 := by have := ltA; simp at this; omega
  have neCS : w.heap.size + 1 ≠ w4.heap.size + 1 := by have := ltC; simp at this; omega
  have neRS : w.heap.size + 1 + 1 ≠ w4.heap.size + 1 := by have := ltR; simp at this; omega
  have neGS : w2.heap.size ≠ w4.heap.size + 1 := by have := ltG; simp at this; omega
  have nePS : w3.heap.size ≠ w4.heap.size + 1 := by have := ltP; simp at this; omega
  have neOS : w3.heap.size + 1 ≠ w4.heap.size + 1 := by have := ltO; simp at this; omega
  have neQS : w4.heap.size ≠ w4.heap.size + 1 := by have := ltQ; simp at this; omega
  replace oA := oA.stay hn
  replace ltA := oA.lt
  replace oC := oC.stay hn
  replace ltC := oC.lt
  replace oR := oR.stay hn
  replace ltR := oR.lt
  replace oG := oG.stay hn
  replace ltG := oG.lt
  replace oP := oP.stay hn
  replace ltP := oP.lt
  replace oO := oO.stay hn
  replace ltO := oO.lt
  replace oQ := oQ.stay hn
  replace ltQ := oQ.lt
  replace hA := hA.below hn
  replace hC := hC.below hn
  replace hG := hG.below hn
  replace hP := hP.below hn
  replace hO := hO.below hn
  replace hQ := hQ.below hn
  replace hS := hS.below hn
  replace hbw := hbw.step hn (Nat.le_refl _)
  clear hn
  have ltS := oS.lt
  have HP : Hid ((Rat.divInt x1 y1).num = (-x1).fdiv g1 ∧ ((Rat.divInt x1 y1).den : Int) = (-y1).fdiv g1) := by
    rw [← HG.out]
    rw [divInt_neg]
    exact divInt_parts (by have := HY.out; omega)
  obtain ⟨Pc0, Pc1, Pq0, Pq1⟩ := oP.two
  obtain ⟨Qc0, Qc1, Qq0, Qq1⟩ := oQ.two
  obtain ⟨Rc0, Rc1, Rc2, Rc3⟩ := oR.four
  obtain ⟨Rq0, Rq1, Rq2, Rq3⟩ := oR.frozen4
  try simp only []
  try go_at_K
  repeat (first | go_values | go_skip | go_guarded | go_step | go_upon)
  refine bodyPost_ret (v := (.agg #[.bool xP, .slice aP nP cP, .bool xQ, .slice aQ nQ cQ])) (by simp [results, Try.results57, go_sem, Rc0, Rc1, Rc2, Rc3]) rfl ?_
  refine ⟨_, _, _, _, _, _, _, _, rfl, QRP.keepI (w := ((w4.alloc (.cells #[.bool xQ, .slice aQ nQ cQ] 33 (0, 0))).alloc (.cells #[.bool xS, .slice aS nS cS] 33 (0, 0)))) ⟨by rw [HP.out.1]; exact hP, _, hQ, Or.inl HP.out.2.symm⟩ (keepI_four (noI_slice _ _ _) (noI_slice _ _ _) oR _ _ _ _ _ _ _ _), below_store4 hbw (by omega) _ _ _ _⟩

theorem rlowest_any (vA vC : Value) (x1 y1 : Int) (N : Nat) (w : World) (hA : RNum w vA x1 N) (hC : RNum w vC y1 N) (hy : y1 ≠ 0) (hN : N ≤ 4000) :
    Calls Try.prog 57 #[vA, vC] w fun e w' => ∃ s1 s2 s3 s4 s5 s6 s7 s8, e = .returned (.agg #[.bool s1, .slice s2 s3 s4, .bool s5, .slice s6 s7 s8]) ∧ QRP w' s1 s2 s3 s4 s5 s6 s7 s8 (Rat.divInt x1 y1) (2 * N + 30) ∧ Below w.heap.size w w' := by
  rcases Int.lt_or_gt_of_ne hy with h | h
  · exact rlowest_neg vA vC x1 y1 N w hA hC h hN
  · exact rlowest_pos vA vC x1 y1 N w hA hC h hN

set_option maxRecDepth 20000 in
set_option maxHeartbeats 8000000 in
theorem rof_any (vA vC : Value) (x1 y1 : Int) (N : Nat) (w : World) (hA : RNum w vA x1 N) (hC : RNum w vC y1 N) (hN : N ≤ 4000) :
    Calls Try.prog 16 #[vA, vC] w fun e w' => ∃ s1 s2 s3 s4 s5 s6 s7 s8, e = .returned (.tuple #[.agg #[.bool s1, .slice s2 s3 s4, .bool s5, .slice s6 s7 s8], .int .i64 (qc0 y1)]) ∧ QRP w' s1 s2 s3 s4 s5 s6 s7 s8 (Rat.divInt x1 y1) (2 * N + 30) ∧ Below w.heap.size w w' := by
  obtain ⟨xA, aA, nA, cA, rfl⟩ := hA.shape
  obtain ⟨xC, aC, nC, cC, rfl⟩ := hC.shape
  have HN : Hid (N ≤ 4000) := hN
  clear hN
  have oA := (((Blk.new w 33 #[.bool xA, .slice aA nA cA]).alloc (.cells #[.bool xC, .slice aC nC cC] 33 (0, 0))).alloc (.cells #[.bool false, .slice none 0 0, .bool false, .slice none 0 0] 35 (0, 0)))
  have oC := ((Blk.new (w.alloc (.cells #[.bool xA, .slice aA nA cA] 33 (0, 0))) 33 #[.bool xC, .slice aC nC cC]).alloc (.cells #[.bool false, .slice none 0 0, .bool false, .slice none 0 0] 35 (0, 0)))
  have oR := (Blk.new ((w.alloc (.cells #[.bool xA, .slice aA nA cA] 33 (0, 0))).alloc (.cells #[.bool xC, .slice aC nC cC] 33 (0, 0))) 35 #[.bool false, .slice none 0 0, .bool false, .slice none 0 0])
  simp only [World.size_alloc] at oC oR
  have hbw : Below w.heap.size w (((w.alloc (.cells #[.bool xA, .slice aA nA cA] 33 (0, 0))).alloc (.cells #[.bool xC, .slice aC nC cC] 33 (0, 0))).alloc (.cells #[.bool false, .slice none 0 0, .bool false, .slice none 0 0] 35 (0, 0))) := by go_grown
  replace hA := hA.below hbw
  replace hC := hC.below hbw
  have ltA := oA.lt
  have ltC := oC.lt
  have ltR := oR.lt
  go_enter Try.func16, Try.ntmps16
  by_cases h0 : y1 = 0
  · have hm : nC = 0 := by
      rcases Nat.eq_zero_or_pos nC with k | k
      · exact k
      · exact absurd h0 ((rnum_len hC).1 k)
    have HQ : Hid (qc0 y1 = 12 ∧ Rat.divInt x1 y1 = 0) := ⟨if_pos h0, by rw [h0, Rat.divInt_zero]⟩
    subst hm
    clear h0
    obtain ⟨Cc0, Cc1, Cq0, Cq1⟩ := oC.two
    go_wp2
    refine bodyPost_ret (v := (.tuple #[.agg #[.bool false, .slice none 0 0, .bool false, .slice none 0 0], .int .i64 12])) (by simp [results, Try.results16, go_sem]) rfl ?_
    exact ⟨_, _, _, _, _, _, _, _, by rw [HQ.out.1], by rw [HQ.out.2]; exact QRP.zero, by go_grown⟩
  · have hm : ((nC : Int) == 0) = false := by rw [beq_eq_false_iff_ne]; have := (rnum_len hC).2 h0; omega
    have HY : Hid (y1 ≠ 0) := h0
    have HQ : Hid (qc0 y1 = 0) := if_neg h0
    clear h0
    obtain ⟨Ac0, Ac1, Aq0, Aq1⟩ := oA.two
    obtain ⟨Cc0, Cc1, Cq0, Cq1⟩ := oC.two
    go_wp2_with fail
    refine (rlowest_any _ _ x1 y1 N _ hA hC HY.out HN.out).mono ?_
    rintro e w1 ⟨u1, u2, u3, u4, u5, u6, u7, u8, rfl, hQ, hb⟩
    clear Ac0 Ac1 Aq0 Aq1
    clear Cc0 Cc1 Cq0 Cq1
    replace oA := oA.stay hb
    replace ltA := oA.lt
    replace oC := oC.stay hb
    replace ltC := oC.lt
    replace oR := oR.stay hb
    replace ltR := oR.lt
    replace hA := hA.below hb
    replace hC := hC.below hb
    replace hbw := hbw.step hb (Nat.le_refl _)
    clear hb
    obtain ⟨Rc0, Rc1, Rc2, Rc3⟩ := oR.four
    obtain ⟨Rq0, Rq1, Rq2, Rq3⟩ := oR.frozen4
    try simp only []
    try go_at_K
    repeat (first | go_values | go_skip | go_guarded | go_step | go_upon)
    refine bodyPost_ret (v := (.tuple #[.agg #[.bool u1, .slice u2 u3 u4, .bool u5, .slice u6 u7 u8], .int .i64 0])) (by simp [results, Try.results16, go_sem, Rc0, Rc1, Rc2, Rc3]) rfl ?_
    exact ⟨_, _, _, _, _, _, _, _, by rw [HQ.out], hQ.keepI (keepI_four (noI_slice _ _ _) (noI_slice _ _ _) oR _ _ _ _ _ _ _ _), below_store4 hbw (by omega) _ _ _ _⟩

end Go.Proofs.Ytidpbdhhbeaijaa
