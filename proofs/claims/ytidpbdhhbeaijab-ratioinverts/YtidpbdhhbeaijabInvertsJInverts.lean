/- The walk of suretylaw02.RatioInverts: it answers true at every input. -/
import Derived.Test.YtidpbdhhbeaijabL0JInverts
import Derived.Test.YtidpbdhhbeaijabQ7JInverts
namespace Go.Proofs.Ytidpbdhhbeaijab
open Go.RowKit
theorem inv_zero {q : Rat} (h : q⁻¹ = 0) : q = 0 := by
  have := Rat.inv_inv q
  rw [h] at this
  rw [← this]
  decide +kernel
theorem quo_self {q : Rat} (h : q ≠ 0) : quoC q q = 0 ∧ quoZ q q = 1 := by
  have e : q * q⁻¹ = 1 := Rat.mul_inv_cancel q h
  have hf : mFits q q⁻¹ := by
    unfold mFits
    rw [e]
    have := word_lim
    exact ⟨by simp; omega, by simp; omega⟩
  exact ⟨(if_neg h).trans (mulC_yes hf), (if_neg h).trans ((mulZ_yes hf).trans e)⟩
theorem txq_one {S : ByteArray} (h : TextQ S 1) : (S.toList == [49]) = true := by
  have k : TextQ ⟨#[49]⟩ 1 := Or.inl ⟨rfl, tx_1⟩
  rw [h.same k, ByteArray.toList_mk]; rfl

set_option maxRecDepth 20000 in
set_option maxHeartbeats 16000000 in
theorem ratioInverts_any (s : ByteArray) (w : World) (hs : s.size ≤ maxLen) :
    Calls Try.prog 5 #[.string s] w fun e w' => e = .returned (.bool true) ∧ Below w.heap.size w w' := by
  have hbw := Below.refl w.heap.size w
  go_enter Try.func5, Try.ntmps5
  go_wp2_with fail
  refine (awake2_any _).mono ?_
  rintro e w1 ⟨rfl, hb⟩
  replace hbw := hbw.step hb (Nat.le_refl _)
  clear hb
  go_wp2_with fail
  refine (rat_any s _ hs).mono ?_
  rintro e w2 ⟨q, xA, aA, nA, cA, yA, eA, mA, fA, xAr, aAr, nAr, cAr, yAr, eAr, mAr, fAr, rfl, hA, hAr, hb⟩
  replace hbw := hbw.step hb (Nat.le_refl _)
  clear hb
  have hn := below_new w2 (.cells #[.bool xA, .slice aA nA cA, .bool yA, .slice eA mA fA] 27 (0, 0))
  have oA := Blk.new w2 27 #[.bool xA, .slice aA nA cA, .bool yA, .slice eA mA fA]
  have lwA : w.heap.size ≤ w2.heap.size := hbw.size
  replace hA := hA.below hn
  replace hAr := hAr.below hn
  replace hbw := hbw.step hn (Nat.le_refl _)
  clear hn
  have ltA := oA.lt
  have hn := below_new (w2.alloc (.cells #[.bool xA, .slice aA nA cA, .bool yA, .slice eA mA fA] 27 (0, 0))) (.cells #[.bool xAr, .slice aAr nAr cAr, .bool yAr, .slice eAr mAr fAr] 32 (0, 0))
  have oAr := Blk.new (w2.alloc (.cells #[.bool xA, .slice aA nA cA, .bool yA, .slice eA mA fA] 27 (0, 0))) 32 #[.bool xAr, .slice aAr nAr cAr, .bool yAr, .slice eAr mAr fAr]
  simp only [World.size_alloc] at oAr
  have neAAr : w2.heap.size ≠ w2.heap.size + 1 := by have := ltA; simp at this; omega
  replace oA := oA.stay hn
  replace ltA := oA.lt
  replace hA := hA.below hn
  replace hAr := hAr.below hn
  replace hbw := hbw.step hn (Nat.le_refl _)
  clear hn
  have ltAr := oAr.lt
  clear ltAr oAr
  clear hAr
  by_cases hq0 : q = 0
  · have E0 : qc0 q.num = 12 := if_pos (num_zero.2 hq0)
    have HS : Hid (q.num.sign = 0) := by show _ = _; rw [num_zero.2 hq0]; rfl
    clear hq0
    obtain ⟨Ac0, Ac1, Ac2, Ac3⟩ := oA.four
    obtain ⟨Aq0, Aq1, Aq2, Aq3⟩ := oA.frozen4
    go_wp2_with fail
    refine (inv_any _ q _ hA.val).mono ?_
    rintro e w3 ⟨i1, i2, i3, i4, i5, i6, i7, i8, rfl, hI, hb⟩
    clear Ac0 Ac1 Ac2 Ac3 Aq0 Aq1 Aq2 Aq3
    replace oA := oA.stay hb
    replace ltA := oA.lt
    replace hA := hA.below hb
    replace hbw := hbw.step hb (Nat.le_refl _)
    clear hb
    have hn := below_new w3 (.cells #[.bool i1, .slice i2 i3 i4, .bool i5, .slice i6 i7 i8] 27 (0, 0))
    have oI := Blk.new w3 27 #[.bool i1, .slice i2 i3 i4, .bool i5, .slice i6 i7 i8]
    have neAI : w2.heap.size ≠ w3.heap.size := Nat.ne_of_lt ltA
    have lwI : w.heap.size ≤ w3.heap.size := hbw.size
    replace oA := oA.stay hn
    replace ltA := oA.lt
    replace hA := hA.below hn
    replace hI := hI.below hn
    replace hbw := hbw.step hn (Nat.le_refl _)
    clear hn
    have ltI := oI.lt
    obtain ⟨Ac0, Ac1, Ac2, Ac3⟩ := oA.four
    obtain ⟨Aq0, Aq1, Aq2, Aq3⟩ := oA.frozen4
    go_wp2_with fail
    refine (qsign_any _ q 0 _ hA.val HS.out).mono ?_
    rintro e w4 ⟨rfl, hb⟩
    clear Ac0 Ac1 Ac2 Ac3 Aq0 Aq1 Aq2 Aq3
    replace oA := oA.stay hb
    replace ltA := oA.lt
    replace oI := oI.stay hb
    replace ltI := oI.lt
    replace hA := hA.below hb
    replace hI := hI.below hb
    replace hbw := hbw.step hb (Nat.le_refl _)
    clear hb
    go_wp2
    refine bodyPost_ret (v := (.bool true)) (by simp [results, Try.results5, go_sem]) rfl ?_
    exact ⟨rfl, hbw⟩
  · have E0 : qc0 q.num = 0 := if_neg (fun h => hq0 (num_zero.1 h))
    obtain ⟨sg, HS⟩ : ∃ z, Hid (q.num.sign = z) := ⟨_, rfl⟩
    have hsg : (sg == 0) = false := by rw [← HS.out, beq_eq_false_iff_ne]; exact fun h => hq0 (num_zero.1 (Int.sign_eq_zero_iff_zero.1 h))
    have E1 : qc0 q⁻¹.num = 0 := if_neg (fun h => hq0 (inv_zero (num_zero.1 h)))
    have HQ : Hid (q⁻¹⁻¹ = q) := Rat.inv_inv q
    have HM : Hid (quoC q q = 0 ∧ quoZ q q = 1) := quo_self hq0
    have E2 := HM.out.1
    clear hq0
    obtain ⟨Ac0, Ac1, Ac2, Ac3⟩ := oA.four
    obtain ⟨Aq0, Aq1, Aq2, Aq3⟩ := oA.frozen4
    go_wp2_with fail
    refine (inv_any _ q _ hA.val).mono ?_
    rintro e w3 ⟨i1, i2, i3, i4, i5, i6, i7, i8, rfl, hI, hb⟩
    clear Ac0 Ac1 Ac2 Ac3 Aq0 Aq1 Aq2 Aq3
    replace oA := oA.stay hb
    replace ltA := oA.lt
    replace hA := hA.below hb
    replace hbw := hbw.step hb (Nat.le_refl _)
    clear hb
    have hn := below_new w3 (.cells #[.bool i1, .slice i2 i3 i4, .bool i5, .slice i6 i7 i8] 27 (0, 0))
    have oI := Blk.new w3 27 #[.bool i1, .slice i2 i3 i4, .bool i5, .slice i6 i7 i8]
    have neAI : w2.heap.size ≠ w3.heap.size := Nat.ne_of_lt ltA
    have lwI : w.heap.size ≤ w3.heap.size := hbw.size
    replace oA := oA.stay hn
    replace ltA := oA.lt
    replace hA := hA.below hn
    replace hI := hI.below hn
    replace hbw := hbw.step hn (Nat.le_refl _)
    clear hn
    have ltI := oI.lt
    obtain ⟨Ac0, Ac1, Ac2, Ac3⟩ := oA.four
    obtain ⟨Aq0, Aq1, Aq2, Aq3⟩ := oA.frozen4
    go_wp2_with fail
    refine (qsign_any _ q sg _ hA.val HS.out).mono ?_
    rintro e w4 ⟨rfl, hb⟩
    clear Ac0 Ac1 Ac2 Ac3 Aq0 Aq1 Aq2 Aq3
    replace oA := oA.stay hb
    replace ltA := oA.lt
    replace oI := oI.stay hb
    replace ltI := oI.lt
    replace hA := hA.below hb
    replace hI := hI.below hb
    replace hbw := hbw.step hb (Nat.le_refl _)
    clear hb
    obtain ⟨Ic0, Ic1, Ic2, Ic3⟩ := oI.four
    obtain ⟨Iq0, Iq1, Iq2, Iq3⟩ := oI.frozen4
    go_wp2_with fail
    refine (inv_any _ q⁻¹ _ hI.val).mono ?_
    rintro e w5 ⟨j1, j2, j3, j4, j5, j6, j7, j8, rfl, hJ, hb⟩
    clear Ic0 Ic1 Ic2 Ic3 Iq0 Iq1 Iq2 Iq3
    replace oA := oA.stay hb
    replace ltA := oA.lt
    replace oI := oI.stay hb
    replace ltI := oI.lt
    replace hA := hA.below hb
    replace hI := hI.below hb
    replace hbw := hbw.step hb (Nat.le_refl _)
    clear hb
    rw [HQ.out] at hJ
    rw [E1]
    have hn := below_new w5 (.cells #[.bool j1, .slice j2 j3 j4, .bool j5, .slice j6 j7 j8] 27 (0, 0))
    have oJ := Blk.new w5 27 #[.bool j1, .slice j2 j3 j4, .bool j5, .slice j6 j7 j8]
    have neAJ : w2.heap.size ≠ w5.heap.size := Nat.ne_of_lt ltA
    have neIJ : w3.heap.size ≠ w5.heap.size := Nat.ne_of_lt ltI
    have lwJ : w.heap.size ≤ w5.heap.size := hbw.size
    replace oA := oA.stay hn
    replace ltA := oA.lt
    replace oI := oI.stay hn
    replace ltI := oI.lt
    replace hA := hA.below hn
    replace hI := hI.below hn
    replace hJ := hJ.below hn
    replace hbw := hbw.step hn (Nat.le_refl _)
    clear hn
    have ltJ := oJ.lt
    obtain ⟨Ac0, Ac1, Ac2, Ac3⟩ := oA.four
    obtain ⟨Aq0, Aq1, Aq2, Aq3⟩ := oA.frozen4
    go_wp2_with fail
    refine (quo_any _ _ q q _ hA.val hA.val).mono ?_
    rintro e w6 ⟨l1, l2, l3, l4, l5, l6, l7, l8, rfl, hL, hb⟩
    clear Ac0 Ac1 Ac2 Ac3 Aq0 Aq1 Aq2 Aq3
    replace oA := oA.stay hb
    replace ltA := oA.lt
    replace oI := oI.stay hb
    replace ltI := oI.lt
    replace oJ := oJ.stay hb
    replace ltJ := oJ.lt
    replace hA := hA.below hb
    replace hI := hI.below hb
    replace hJ := hJ.below hb
    replace hbw := hbw.step hb (Nat.le_refl _)
    clear hb
    rw [HM.out.2] at hL
    rw [E2]
    have hn := below_new w6 (.cells #[.bool l1, .slice l2 l3 l4, .bool l5, .slice l6 l7 l8] 27 (0, 0))
    have oL := Blk.new w6 27 #[.bool l1, .slice l2 l3 l4, .bool l5, .slice l6 l7 l8]
    have neAL : w2.heap.size ≠ w6.heap.size := Nat.ne_of_lt ltA
    have neIL : w3.heap.size ≠ w6.heap.size := Nat.ne_of_lt ltI
    have neJL : w5.heap.size ≠ w6.heap.size := Nat.ne_of_lt ltJ
    have lwL : w.heap.size ≤ w6.heap.size := hbw.size
    replace oA := oA.stay hn
    replace ltA := oA.lt
    replace oI := oI.stay hn
    replace ltI := oI.lt
    replace oJ := oJ.stay hn
    replace ltJ := oJ.lt
    replace hA := hA.below hn
    replace hI := hI.below hn
    replace hJ := hJ.below hn
    replace hL := hL.below hn
    replace hbw := hbw.step hn (Nat.le_refl _)
    clear hn
    have ltL := oL.lt
    go_wp2
    generalize (w6.alloc (.cells #[.bool l1, .slice l2 l3 l4, .bool l5, .slice l6 l7 l8] 27 (0, 0))) = W6 at hbw oA oI oJ oL ltA ltI ltJ ltL hA hI hJ hL ⊢
    refine wp_region_M (by kernel_rfl) [2, 39, 40, 41, 42, 43, 44, 45, 46, 47, 48, 49, 50, 51, 52, 53, 54, 55, 56, 57, 58, 59, 60] [none, none, some 2, none, none, none, none, none, none, none, none, none, none, none, none, none, none, none, none, none, none, none, none, none, none, none, none, none, none, none, none, none, none, none, none, none, none, none, none, some 39, some 40, some 41, some 42, some 43, some 44, some 45, some 46, some 47, some 48, some 49, some 50, some 51, some 52, some 53, some 54, some 55, some 56, some 57, some 58, some 59, some 60] (fun U => by kernel_rfl) (fun L U wr => Below w.heap.size w wr ∧ KeepI W6 wr ∧ W6.heap.size ≤ wr.heap.size ∧ Blk 27 wr (w2.heap.size) #[.bool xA, .slice aA nA cA, .bool yA, .slice eA mA fA] ∧ Blk 27 wr (w5.heap.size) #[.bool j1, .slice j2 j3 j4, .bool j5, .slice j6 j7 j8] ∧ Blk 27 wr (w6.heap.size) #[.bool l1, .slice l2 l3 l4, .bool l5, .slice l6 l7 l8] ∧ (L 0 = true → IS (.int .i64 0) (U 39) wr) ∧ (L 1 = true → IS (.bool true) (U 40) wr) ∧ (L 2 = true → IS (.bool true) (U 41) wr) ∧ (L 3 = true → IS (.int .i64 0) (U 42) wr) ∧ (L 4 = true → IS (.bool true) (U 43) wr) ∧ (L 5 = true → IS (.bool true) (U 44) wr) ∧ (L 6 = true → IS (.bool true) (U 45) wr) ∧ (L 7 = true → IS (.int .i64 0) (U 46) wr) ∧ (L 8 = true → IS (.bool true) (U 47) wr) ∧ (L 9 = true → IS (.bool true) (U 48) wr) ∧ (L 10 = true → IS (.bool true) (U 49) wr) ∧ (L 11 = true → IS (.agg #[.bool j1, .slice j2 j3 j4, .bool j5, .slice j6 j7 j8]) (U 50) wr) ∧ (L 12 = true → TXQ q (U 51) wr) ∧ (L 13 = true → IS (.agg #[.bool xA, .slice aA nA cA, .bool yA, .slice eA mA fA]) (U 52) wr) ∧ (L 14 = true → TXQ q (U 53) wr) ∧ (L 15 = true → IS (.bool true) (U 54) wr) ∧ (L 16 = true → IS (.bool true) (U 55) wr) ∧ (L 17 = true → IS (.bool true) (U 56) wr) ∧ (L 18 = true → IS (.agg #[.bool l1, .slice l2 l3 l4, .bool l5, .slice l6 l7 l8]) (U 57) wr) ∧ (L 19 = true → TXQ (1 : Rat) (U 58) wr) ∧ (L 20 = true → IS (.bool true) (U 59) wr) ∧ (L 21 = true → IS (.bool true) (U 60) wr) ∧ (L 22 = true → IS (.bool true) (U 2) wr)) (by kernel_rfl) ?_ ?_ ?_
    · exact fun U => ⟨hbw.drew, KeepI.below (Below.refl _ _).drew, Nat.le_refl _, oA.drew, oJ.drew, oL.drew, (fun h => by cases h), (fun h => by cases h), (fun h => by cases h), (fun h => by cases h), (fun h => by cases h), (fun h => by cases h), (fun h => by cases h), (fun h => by cases h), (fun h => by cases h), (fun h => by cases h), (fun h => by cases h), (fun h => by cases h), (fun h => by cases h), (fun h => by cases h), (fun h => by cases h), (fun h => by cases h), (fun h => by cases h), (fun h => by cases h), (fun h => by cases h), (fun h => by cases h), (fun h => by cases h), (fun h => by cases h), (fun h => by cases h)⟩
    · refine StepsU.run rfl ?_ ?_
      · intro L U wr hF hlk haf A K hA hK
        have HA : Hid (A = putAll _ _ U) := hA
        clear hA
        simp [Aft, Region.binds] at haf
        obtain ⟨fb, fk, fs, oA, oJ, oL, f0, f1, f2, f3, f4, f5, f6, f7, f8, f9, f10, f11, f12, f13, f14, f15, f16, f17, f18, f19, f20, f21, f22⟩ := hF
        have e6 : A.tmps[6]? = some (.int .i64 0) := by rw [HA.out]; kernel_rfl
        refine ⟨?_⟩
        go_simp
        refine hK (upd U 39 (.int .i64 0)) _ _ ?_ ?_
        · rw [HA.out]; kernel_rfl
        · exact ⟨fb, fk, fs, oA, oJ, oL, (fun _ => rfl), f1, f2, f3, f4, f5, f6, f7, f8, f9, f10, f11, f12, f13, f14, f15, f16, f17, f18, f19, f20, f21, f22⟩
      refine StepsU.run rfl ?_ ?_
      · intro L U wr hF hlk haf A K hA hK
        have HA : Hid (A = putAll _ _ U) := hA
        clear hA
        simp [Aft, Region.binds] at haf
        obtain ⟨fb, fk, fs, oA, oJ, oL, f0, f1, f2, f3, f4, f5, f6, f7, f8, f9, f10, f11, f12, f13, f14, f15, f16, f17, f18, f19, f20, f21, f22⟩ := hF
        have g0 := f0 (by simp [haf])
        have e39 := rd HA.out 39 (by kernel_rfl) g0
        refine ⟨?_⟩
        go_simp
        refine hK (upd U 40 (.bool true)) _ _ ?_ ?_
        · rw [HA.out]; kernel_rfl
        · exact ⟨fb, fk, fs, oA, oJ, oL, f0, (fun _ => rfl), f2, f3, f4, f5, f6, f7, f8, f9, f10, f11, f12, f13, f14, f15, f16, f17, f18, f19, f20, f21, f22⟩
      refine StepsU.run rfl ?_ ?_
      · intro L U wr hF hlk haf A K hA hK
        have HA : Hid (A = putAll _ _ U) := hA
        clear hA
        simp [Aft, Region.binds] at haf
        obtain ⟨fb, fk, fs, oA, oJ, oL, f0, f1, f2, f3, f4, f5, f6, f7, f8, f9, f10, f11, f12, f13, f14, f15, f16, f17, f18, f19, f20, f21, f22⟩ := hF
        have g1 := f1 (by simp [haf])
        have e40 := rd HA.out 40 (by kernel_rfl) rfl
        refine ⟨?_⟩
        go_simp
        refine hK (upd U 41 (U 40)) _ _ ?_ ?_
        · rw [HA.out]; kernel_rfl
        · exact ⟨fb, fk, fs, oA, oJ, oL, f0, f1, (fun _ => g1), f3, f4, f5, f6, f7, f8, f9, f10, f11, f12, f13, f14, f15, f16, f17, f18, f19, f20, f21, f22⟩
      refine StepsU.cond ?_ ?_
      · intro L U wr hF hlk haf A K hA hK
        have HA : Hid (A = putAll _ _ U) := hA
        clear hA
        simp [Aft, Region.binds] at haf
        obtain ⟨fb, fk, fs, oA, oJ, oL, f0, f1, f2, f3, f4, f5, f6, f7, f8, f9, f10, f11, f12, f13, f14, f15, f16, f17, f18, f19, f20, f21, f22⟩ := hF
        have gg := f2 (by simp [haf])
        have ee := rd HA.out 41 (by kernel_rfl) gg
        refine ⟨?_⟩
        rw [if_pos (by simp [Region.wanted, yielded, ee])]
        refine Gate.out ?_
        clear gg ee
        have e8 : A.tmps[8]? = some (.int .i64 0) := by rw [HA.out]; kernel_rfl
        refine ⟨?_⟩
        go_simp
        refine hK (upd U 42 (.int .i64 0)) _ _ ?_ ?_
        · rw [HA.out]; kernel_rfl
        · exact ⟨fb, fk, fs, oA, oJ, oL, f0, f1, f2, (fun _ => rfl), f4, f5, f6, f7, f8, f9, f10, f11, f12, f13, f14, f15, f16, f17, f18, f19, f20, f21, f22⟩
      refine StepsU.cond ?_ ?_
      · intro L U wr hF hlk haf A K hA hK
        have HA : Hid (A = putAll _ _ U) := hA
        clear hA
        simp [Aft, Region.binds] at haf
        obtain ⟨fb, fk, fs, oA, oJ, oL, f0, f1, f2, f3, f4, f5, f6, f7, f8, f9, f10, f11, f12, f13, f14, f15, f16, f17, f18, f19, f20, f21, f22⟩ := hF
        have gg := f2 (by simp [haf])
        have ee := rd HA.out 41 (by kernel_rfl) gg
        refine ⟨?_⟩
        rw [if_pos (by simp [Region.wanted, yielded, ee])]
        refine Gate.out ?_
        clear gg ee
        have g3 := f3 (by simp [haf])
        have e42 := rd HA.out 42 (by kernel_rfl) g3
        refine ⟨?_⟩
        go_simp
        refine hK (upd U 43 (.bool true)) _ _ ?_ ?_
        · rw [HA.out]; kernel_rfl
        · exact ⟨fb, fk, fs, oA, oJ, oL, f0, f1, f2, f3, (fun _ => rfl), f5, f6, f7, f8, f9, f10, f11, f12, f13, f14, f15, f16, f17, f18, f19, f20, f21, f22⟩
      refine StepsU.run rfl ?_ ?_
      · intro L U wr hF hlk haf A K hA hK
        have HA : Hid (A = putAll _ _ U) := hA
        clear hA
        simp [Aft, Region.binds] at haf
        obtain ⟨fb, fk, fs, oA, oJ, oL, f0, f1, f2, f3, f4, f5, f6, f7, f8, f9, f10, f11, f12, f13, f14, f15, f16, f17, f18, f19, f20, f21, f22⟩ := hF
        have g2 := f2 (by simp [haf])
        have g4 := f4 (by simp [haf])
        have e41 := rd HA.out 41 (by kernel_rfl) g2
        have e43 := rd HA.out 43 (by kernel_rfl) g4
        refine ⟨?_⟩
        go_simp
        refine hK (upd U 44 (.bool true)) _ _ ?_ ?_
        · rw [HA.out]; kernel_rfl
        · exact ⟨fb, fk, fs, oA, oJ, oL, f0, f1, f2, f3, f4, (fun _ => rfl), f6, f7, f8, f9, f10, f11, f12, f13, f14, f15, f16, f17, f18, f19, f20, f21, f22⟩
      refine StepsU.run rfl ?_ ?_
      · intro L U wr hF hlk haf A K hA hK
        have HA : Hid (A = putAll _ _ U) := hA
        clear hA
        simp [Aft, Region.binds] at haf
        obtain ⟨fb, fk, fs, oA, oJ, oL, f0, f1, f2, f3, f4, f5, f6, f7, f8, f9, f10, f11, f12, f13, f14, f15, f16, f17, f18, f19, f20, f21, f22⟩ := hF
        have g5 := f5 (by simp [haf])
        have e44 := rd HA.out 44 (by kernel_rfl) rfl
        refine ⟨?_⟩
        go_simp
        refine hK (upd U 45 (U 44)) _ _ ?_ ?_
        · rw [HA.out]; kernel_rfl
        · exact ⟨fb, fk, fs, oA, oJ, oL, f0, f1, f2, f3, f4, f5, (fun _ => g5), f7, f8, f9, f10, f11, f12, f13, f14, f15, f16, f17, f18, f19, f20, f21, f22⟩
      refine StepsU.cond ?_ ?_
      · intro L U wr hF hlk haf A K hA hK
        have HA : Hid (A = putAll _ _ U) := hA
        clear hA
        simp [Aft, Region.binds] at haf
        obtain ⟨fb, fk, fs, oA, oJ, oL, f0, f1, f2, f3, f4, f5, f6, f7, f8, f9, f10, f11, f12, f13, f14, f15, f16, f17, f18, f19, f20, f21, f22⟩ := hF
        have gg := f6 (by simp [haf])
        have ee := rd HA.out 45 (by kernel_rfl) gg
        refine ⟨?_⟩
        rw [if_pos (by simp [Region.wanted, yielded, ee])]
        refine Gate.out ?_
        clear gg ee
        have e10 : A.tmps[10]? = some (.int .i64 0) := by rw [HA.out]; kernel_rfl
        refine ⟨?_⟩
        go_simp
        refine hK (upd U 46 (.int .i64 0)) _ _ ?_ ?_
        · rw [HA.out]; kernel_rfl
        · exact ⟨fb, fk, fs, oA, oJ, oL, f0, f1, f2, f3, f4, f5, f6, (fun _ => rfl), f8, f9, f10, f11, f12, f13, f14, f15, f16, f17, f18, f19, f20, f21, f22⟩
      refine StepsU.cond ?_ ?_
      · intro L U wr hF hlk haf A K hA hK
        have HA : Hid (A = putAll _ _ U) := hA
        clear hA
        simp [Aft, Region.binds] at haf
        obtain ⟨fb, fk, fs, oA, oJ, oL, f0, f1, f2, f3, f4, f5, f6, f7, f8, f9, f10, f11, f12, f13, f14, f15, f16, f17, f18, f19, f20, f21, f22⟩ := hF
        have gg := f6 (by simp [haf])
        have ee := rd HA.out 45 (by kernel_rfl) gg
        refine ⟨?_⟩
        rw [if_pos (by simp [Region.wanted, yielded, ee])]
        refine Gate.out ?_
        clear gg ee
        have g7 := f7 (by simp [haf])
        have e46 := rd HA.out 46 (by kernel_rfl) g7
        refine ⟨?_⟩
        go_simp
        refine hK (upd U 47 (.bool true)) _ _ ?_ ?_
        · rw [HA.out]; kernel_rfl
        · exact ⟨fb, fk, fs, oA, oJ, oL, f0, f1, f2, f3, f4, f5, f6, f7, (fun _ => rfl), f9, f10, f11, f12, f13, f14, f15, f16, f17, f18, f19, f20, f21, f22⟩
      refine StepsU.run rfl ?_ ?_
      · intro L U wr hF hlk haf A K hA hK
        have HA : Hid (A = putAll _ _ U) := hA
        clear hA
        simp [Aft, Region.binds] at haf
        obtain ⟨fb, fk, fs, oA, oJ, oL, f0, f1, f2, f3, f4, f5, f6, f7, f8, f9, f10, f11, f12, f13, f14, f15, f16, f17, f18, f19, f20, f21, f22⟩ := hF
        have g6 := f6 (by simp [haf])
        have g8 := f8 (by simp [haf])
        have e45 := rd HA.out 45 (by kernel_rfl) g6
        have e47 := rd HA.out 47 (by kernel_rfl) g8
        refine ⟨?_⟩
        go_simp
        refine hK (upd U 48 (.bool true)) _ _ ?_ ?_
        · rw [HA.out]; kernel_rfl
        · exact ⟨fb, fk, fs, oA, oJ, oL, f0, f1, f2, f3, f4, f5, f6, f7, f8, (fun _ => rfl), f10, f11, f12, f13, f14, f15, f16, f17, f18, f19, f20, f21, f22⟩
      refine StepsU.run rfl ?_ ?_
      · intro L U wr hF hlk haf A K hA hK
        have HA : Hid (A = putAll _ _ U) := hA
        clear hA
        simp [Aft, Region.binds] at haf
        obtain ⟨fb, fk, fs, oA, oJ, oL, f0, f1, f2, f3, f4, f5, f6, f7, f8, f9, f10, f11, f12, f13, f14, f15, f16, f17, f18, f19, f20, f21, f22⟩ := hF
        have g9 := f9 (by simp [haf])
        have e48 := rd HA.out 48 (by kernel_rfl) rfl
        refine ⟨?_⟩
        go_simp
        refine hK (upd U 49 (U 48)) _ _ ?_ ?_
        · rw [HA.out]; kernel_rfl
        · exact ⟨fb, fk, fs, oA, oJ, oL, f0, f1, f2, f3, f4, f5, f6, f7, f8, f9, (fun _ => g9), f11, f12, f13, f14, f15, f16, f17, f18, f19, f20, f21, f22⟩
      refine StepsU.cond ?_ ?_
      · intro L U wr hF hlk haf A K hA hK
        have HA : Hid (A = putAll _ _ U) := hA
        clear hA
        simp [Aft, Region.binds] at haf
        obtain ⟨fb, fk, fs, oA, oJ, oL, f0, f1, f2, f3, f4, f5, f6, f7, f8, f9, f10, f11, f12, f13, f14, f15, f16, f17, f18, f19, f20, f21, f22⟩ := hF
        have gg := f10 (by simp [haf])
        have ee := rd HA.out 49 (by kernel_rfl) gg
        refine ⟨?_⟩
        rw [if_pos (by simp [Region.wanted, yielded, ee])]
        refine Gate.out ?_
        clear gg ee
        have e7 : A.tmps[7]? = some (.pointer (some ⟨w5.heap.size, 0, none⟩)) := by rw [HA.out]; kernel_rfl
        obtain ⟨c0, c1, c2, c3⟩ := oJ.four
        refine ⟨?_⟩
        go_simp
        refine hK (upd U 50 (.agg #[.bool j1, .slice j2 j3 j4, .bool j5, .slice j6 j7 j8])) _ _ ?_ ?_
        · rw [HA.out]; kernel_rfl
        · exact ⟨fb, fk, fs, oA, oJ, oL, f0, f1, f2, f3, f4, f5, f6, f7, f8, f9, f10, (fun _ => rfl), f12, f13, f14, f15, f16, f17, f18, f19, f20, f21, f22⟩
      refine StepsU.cond ?_ ?_
      · intro L U wr hF hlk haf A K hA hK
        have HA : Hid (A = putAll _ _ U) := hA
        clear hA
        simp [Aft, Region.binds] at haf
        obtain ⟨fb, fk, fs, oA, oJ, oL, f0, f1, f2, f3, f4, f5, f6, f7, f8, f9, f10, f11, f12, f13, f14, f15, f16, f17, f18, f19, f20, f21, f22⟩ := hF
        have gg := f10 (by simp [haf])
        have ee := rd HA.out 49 (by kernel_rfl) gg
        refine ⟨?_⟩
        rw [if_pos (by simp [Region.wanted, yielded, ee])]
        refine Gate.out ?_
        clear gg ee
        have g11 := f11 (by simp [haf])
        have e50 := rd HA.out 50 (by kernel_rfl) g11
        refine ⟨?_⟩
        go_simp
        refine (qtext_any _ q _ (hJ.val.keepI fk)).mono ?_
        rintro e w1 ⟨S, rfl, hS, hb⟩
        go_simp
        refine hK (upd U 51 (.string S)) _ _ ?_ ?_
        · rw [HA.out]; kernel_rfl
        · exact ⟨(fb.step hb (Nat.le_refl _)), (fk.trans (KeepI.below hb)), (Nat.le_trans fs hb.size), (oA.stay hb), (oJ.stay hb), (oL.stay hb), (mv mo_is (KeepI.below hb) f0), (mv mo_is (KeepI.below hb) f1), (mv mo_is (KeepI.below hb) f2), (mv mo_is (KeepI.below hb) f3), (mv mo_is (KeepI.below hb) f4), (mv mo_is (KeepI.below hb) f5), (mv mo_is (KeepI.below hb) f6), (mv mo_is (KeepI.below hb) f7), (mv mo_is (KeepI.below hb) f8), (mv mo_is (KeepI.below hb) f9), (mv mo_is (KeepI.below hb) f10), (mv mo_is (KeepI.below hb) f11), (fun _ => ⟨S, rfl, hS⟩), (mv mo_is (KeepI.below hb) f13), (mv mo_txq (KeepI.below hb) f14), (mv mo_is (KeepI.below hb) f15), (mv mo_is (KeepI.below hb) f16), (mv mo_is (KeepI.below hb) f17), (mv mo_is (KeepI.below hb) f18), (mv mo_txq (KeepI.below hb) f19), (mv mo_is (KeepI.below hb) f20), (mv mo_is (KeepI.below hb) f21), (mv mo_is (KeepI.below hb) f22)⟩
      refine StepsU.cond ?_ ?_
      · intro L U wr hF hlk haf A K hA hK
        have HA : Hid (A = putAll _ _ U) := hA
        clear hA
        simp [Aft, Region.binds] at haf
        obtain ⟨fb, fk, fs, oA, oJ, oL, f0, f1, f2, f3, f4, f5, f6, f7, f8, f9, f10, f11, f12, f13, f14, f15, f16, f17, f18, f19, f20, f21, f22⟩ := hF
        have gg := f10 (by simp [haf])
        have ee := rd HA.out 49 (by kernel_rfl) gg
        refine ⟨?_⟩
        rw [if_pos (by simp [Region.wanted, yielded, ee])]
        refine Gate.out ?_
        clear gg ee
        have e3 : A.tmps[3]? = some (.pointer (some ⟨w2.heap.size, 0, none⟩)) := by rw [HA.out]; kernel_rfl
        obtain ⟨c0, c1, c2, c3⟩ := oA.four
        refine ⟨?_⟩
        go_simp
        refine hK (upd U 52 (.agg #[.bool xA, .slice aA nA cA, .bool yA, .slice eA mA fA])) _ _ ?_ ?_
        · rw [HA.out]; kernel_rfl
        · exact ⟨fb, fk, fs, oA, oJ, oL, f0, f1, f2, f3, f4, f5, f6, f7, f8, f9, f10, f11, f12, (fun _ => rfl), f14, f15, f16, f17, f18, f19, f20, f21, f22⟩
      refine StepsU.cond ?_ ?_
      · intro L U wr hF hlk haf A K hA hK
        have HA : Hid (A = putAll _ _ U) := hA
        clear hA
        simp [Aft, Region.binds] at haf
        obtain ⟨fb, fk, fs, oA, oJ, oL, f0, f1, f2, f3, f4, f5, f6, f7, f8, f9, f10, f11, f12, f13, f14, f15, f16, f17, f18, f19, f20, f21, f22⟩ := hF
        have gg := f10 (by simp [haf])
        have ee := rd HA.out 49 (by kernel_rfl) gg
        refine ⟨?_⟩
        rw [if_pos (by simp [Region.wanted, yielded, ee])]
        refine Gate.out ?_
        clear gg ee
        have g13 := f13 (by simp [haf])
        have e52 := rd HA.out 52 (by kernel_rfl) g13
        refine ⟨?_⟩
        go_simp
        refine (qtext_any _ q _ (hA.val.keepI fk)).mono ?_
        rintro e w1 ⟨S, rfl, hS, hb⟩
        go_simp
        refine hK (upd U 53 (.string S)) _ _ ?_ ?_
        · rw [HA.out]; kernel_rfl
        · exact ⟨(fb.step hb (Nat.le_refl _)), (fk.trans (KeepI.below hb)), (Nat.le_trans fs hb.size), (oA.stay hb), (oJ.stay hb), (oL.stay hb), (mv mo_is (KeepI.below hb) f0), (mv mo_is (KeepI.below hb) f1), (mv mo_is (KeepI.below hb) f2), (mv mo_is (KeepI.below hb) f3), (mv mo_is (KeepI.below hb) f4), (mv mo_is (KeepI.below hb) f5), (mv mo_is (KeepI.below hb) f6), (mv mo_is (KeepI.below hb) f7), (mv mo_is (KeepI.below hb) f8), (mv mo_is (KeepI.below hb) f9), (mv mo_is (KeepI.below hb) f10), (mv mo_is (KeepI.below hb) f11), (mv mo_txq (KeepI.below hb) f12), (mv mo_is (KeepI.below hb) f13), (fun _ => ⟨S, rfl, hS⟩), (mv mo_is (KeepI.below hb) f15), (mv mo_is (KeepI.below hb) f16), (mv mo_is (KeepI.below hb) f17), (mv mo_is (KeepI.below hb) f18), (mv mo_txq (KeepI.below hb) f19), (mv mo_is (KeepI.below hb) f20), (mv mo_is (KeepI.below hb) f21), (mv mo_is (KeepI.below hb) f22)⟩
      refine StepsU.cond ?_ ?_
      · intro L U wr hF hlk haf A K hA hK
        have HA : Hid (A = putAll _ _ U) := hA
        clear hA
        simp [Aft, Region.binds] at haf
        obtain ⟨fb, fk, fs, oA, oJ, oL, f0, f1, f2, f3, f4, f5, f6, f7, f8, f9, f10, f11, f12, f13, f14, f15, f16, f17, f18, f19, f20, f21, f22⟩ := hF
        have gg := f10 (by simp [haf])
        have ee := rd HA.out 49 (by kernel_rfl) gg
        refine ⟨?_⟩
        rw [if_pos (by simp [Region.wanted, yielded, ee])]
        refine Gate.out ?_
        clear gg ee
        have g12 := f12 (by simp [haf])
        have g14 := f14 (by simp [haf])
        obtain ⟨S, hS, hT⟩ := g12
        obtain ⟨S2, hS2, hT2⟩ := g14
        have tt : (S.toList == S2.toList) = true := by rw [hT.same hT2]; simp
        have e51 := rd HA.out 51 (by kernel_rfl) hS
        have e53 := rd HA.out 53 (by kernel_rfl) hS2
        refine ⟨?_⟩
        go_simp
        refine hK (upd U 54 (.bool true)) _ _ ?_ ?_
        · rw [HA.out]; kernel_rfl
        · exact ⟨fb, fk, fs, oA, oJ, oL, f0, f1, f2, f3, f4, f5, f6, f7, f8, f9, f10, f11, f12, f13, f14, (fun _ => rfl), f16, f17, f18, f19, f20, f21, f22⟩
      refine StepsU.run rfl ?_ ?_
      · intro L U wr hF hlk haf A K hA hK
        have HA : Hid (A = putAll _ _ U) := hA
        clear hA
        simp [Aft, Region.binds] at haf
        obtain ⟨fb, fk, fs, oA, oJ, oL, f0, f1, f2, f3, f4, f5, f6, f7, f8, f9, f10, f11, f12, f13, f14, f15, f16, f17, f18, f19, f20, f21, f22⟩ := hF
        have g10 := f10 (by simp [haf])
        have g15 := f15 (by simp [haf])
        have e49 := rd HA.out 49 (by kernel_rfl) g10
        have e54 := rd HA.out 54 (by kernel_rfl) g15
        refine ⟨?_⟩
        go_simp
        refine hK (upd U 55 (.bool true)) _ _ ?_ ?_
        · rw [HA.out]; kernel_rfl
        · exact ⟨fb, fk, fs, oA, oJ, oL, f0, f1, f2, f3, f4, f5, f6, f7, f8, f9, f10, f11, f12, f13, f14, f15, (fun _ => rfl), f17, f18, f19, f20, f21, f22⟩
      refine StepsU.run rfl ?_ ?_
      · intro L U wr hF hlk haf A K hA hK
        have HA : Hid (A = putAll _ _ U) := hA
        clear hA
        simp [Aft, Region.binds] at haf
        obtain ⟨fb, fk, fs, oA, oJ, oL, f0, f1, f2, f3, f4, f5, f6, f7, f8, f9, f10, f11, f12, f13, f14, f15, f16, f17, f18, f19, f20, f21, f22⟩ := hF
        have g16 := f16 (by simp [haf])
        have e55 := rd HA.out 55 (by kernel_rfl) rfl
        refine ⟨?_⟩
        go_simp
        refine hK (upd U 56 (U 55)) _ _ ?_ ?_
        · rw [HA.out]; kernel_rfl
        · exact ⟨fb, fk, fs, oA, oJ, oL, f0, f1, f2, f3, f4, f5, f6, f7, f8, f9, f10, f11, f12, f13, f14, f15, f16, (fun _ => g16), f18, f19, f20, f21, f22⟩
      refine StepsU.cond ?_ ?_
      · intro L U wr hF hlk haf A K hA hK
        have HA : Hid (A = putAll _ _ U) := hA
        clear hA
        simp [Aft, Region.binds] at haf
        obtain ⟨fb, fk, fs, oA, oJ, oL, f0, f1, f2, f3, f4, f5, f6, f7, f8, f9, f10, f11, f12, f13, f14, f15, f16, f17, f18, f19, f20, f21, f22⟩ := hF
        have gg := f17 (by simp [haf])
        have ee := rd HA.out 56 (by kernel_rfl) gg
        refine ⟨?_⟩
        rw [if_pos (by simp [Region.wanted, yielded, ee])]
        refine Gate.out ?_
        clear gg ee
        have e9 : A.tmps[9]? = some (.pointer (some ⟨w6.heap.size, 0, none⟩)) := by rw [HA.out]; kernel_rfl
        obtain ⟨c0, c1, c2, c3⟩ := oL.four
        refine ⟨?_⟩
        go_simp
        refine hK (upd U 57 (.agg #[.bool l1, .slice l2 l3 l4, .bool l5, .slice l6 l7 l8])) _ _ ?_ ?_
        · rw [HA.out]; kernel_rfl
        · exact ⟨fb, fk, fs, oA, oJ, oL, f0, f1, f2, f3, f4, f5, f6, f7, f8, f9, f10, f11, f12, f13, f14, f15, f16, f17, (fun _ => rfl), f19, f20, f21, f22⟩
      refine StepsU.cond ?_ ?_
      · intro L U wr hF hlk haf A K hA hK
        have HA : Hid (A = putAll _ _ U) := hA
        clear hA
        simp [Aft, Region.binds] at haf
        obtain ⟨fb, fk, fs, oA, oJ, oL, f0, f1, f2, f3, f4, f5, f6, f7, f8, f9, f10, f11, f12, f13, f14, f15, f16, f17, f18, f19, f20, f21, f22⟩ := hF
        have gg := f17 (by simp [haf])
        have ee := rd HA.out 56 (by kernel_rfl) gg
        refine ⟨?_⟩
        rw [if_pos (by simp [Region.wanted, yielded, ee])]
        refine Gate.out ?_
        clear gg ee
        have g18 := f18 (by simp [haf])
        have e57 := rd HA.out 57 (by kernel_rfl) g18
        refine ⟨?_⟩
        go_simp
        refine (qtext_any _ (1 : Rat) _ (hL.val.keepI fk)).mono ?_
        rintro e w1 ⟨S, rfl, hS, hb⟩
        go_simp
        refine hK (upd U 58 (.string S)) _ _ ?_ ?_
        · rw [HA.out]; kernel_rfl
        · exact ⟨(fb.step hb (Nat.le_refl _)), (fk.trans (KeepI.below hb)), (Nat.le_trans fs hb.size), (oA.stay hb), (oJ.stay hb), (oL.stay hb), (mv mo_is (KeepI.below hb) f0), (mv mo_is (KeepI.below hb) f1), (mv mo_is (KeepI.below hb) f2), (mv mo_is (KeepI.below hb) f3), (mv mo_is (KeepI.below hb) f4), (mv mo_is (KeepI.below hb) f5), (mv mo_is (KeepI.below hb) f6), (mv mo_is (KeepI.below hb) f7), (mv mo_is (KeepI.below hb) f8), (mv mo_is (KeepI.below hb) f9), (mv mo_is (KeepI.below hb) f10), (mv mo_is (KeepI.below hb) f11), (mv mo_txq (KeepI.below hb) f12), (mv mo_is (KeepI.below hb) f13), (mv mo_txq (KeepI.below hb) f14), (mv mo_is (KeepI.below hb) f15), (mv mo_is (KeepI.below hb) f16), (mv mo_is (KeepI.below hb) f17), (mv mo_is (KeepI.below hb) f18), (fun _ => ⟨S, rfl, hS⟩), (mv mo_is (KeepI.below hb) f20), (mv mo_is (KeepI.below hb) f21), (mv mo_is (KeepI.below hb) f22)⟩
      refine StepsU.cond ?_ ?_
      · intro L U wr hF hlk haf A K hA hK
        have HA : Hid (A = putAll _ _ U) := hA
        clear hA
        simp [Aft, Region.binds] at haf
        obtain ⟨fb, fk, fs, oA, oJ, oL, f0, f1, f2, f3, f4, f5, f6, f7, f8, f9, f10, f11, f12, f13, f14, f15, f16, f17, f18, f19, f20, f21, f22⟩ := hF
        have gg := f17 (by simp [haf])
        have ee := rd HA.out 56 (by kernel_rfl) gg
        refine ⟨?_⟩
        rw [if_pos (by simp [Region.wanted, yielded, ee])]
        refine Gate.out ?_
        clear gg ee
        have g19 := f19 (by simp [haf])
        obtain ⟨S, hS, hT⟩ := g19
        have tt := txq_one hT
        have e58 := rd HA.out 58 (by kernel_rfl) hS
        refine ⟨?_⟩
        go_simp
        refine hK (upd U 59 (.bool true)) _ _ ?_ ?_
        · rw [HA.out]; kernel_rfl
        · exact ⟨fb, fk, fs, oA, oJ, oL, f0, f1, f2, f3, f4, f5, f6, f7, f8, f9, f10, f11, f12, f13, f14, f15, f16, f17, f18, f19, (fun _ => rfl), f21, f22⟩
      refine StepsU.run rfl ?_ ?_
      · intro L U wr hF hlk haf A K hA hK
        have HA : Hid (A = putAll _ _ U) := hA
        clear hA
        simp [Aft, Region.binds] at haf
        obtain ⟨fb, fk, fs, oA, oJ, oL, f0, f1, f2, f3, f4, f5, f6, f7, f8, f9, f10, f11, f12, f13, f14, f15, f16, f17, f18, f19, f20, f21, f22⟩ := hF
        have g17 := f17 (by simp [haf])
        have g20 := f20 (by simp [haf])
        have e56 := rd HA.out 56 (by kernel_rfl) g17
        have e59 := rd HA.out 59 (by kernel_rfl) g20
        refine ⟨?_⟩
        go_simp
        refine hK (upd U 60 (.bool true)) _ _ ?_ ?_
        · rw [HA.out]; kernel_rfl
        · exact ⟨fb, fk, fs, oA, oJ, oL, f0, f1, f2, f3, f4, f5, f6, f7, f8, f9, f10, f11, f12, f13, f14, f15, f16, f17, f18, f19, f20, (fun _ => rfl), f22⟩
      refine StepsU.run rfl ?_ StepsU.nil
      · intro L U wr hF hlk haf A K hA hK
        have HA : Hid (A = putAll _ _ U) := hA
        clear hA
        simp [Aft, Region.binds] at haf
        obtain ⟨fb, fk, fs, oA, oJ, oL, f0, f1, f2, f3, f4, f5, f6, f7, f8, f9, f10, f11, f12, f13, f14, f15, f16, f17, f18, f19, f20, f21, f22⟩ := hF
        have g21 := f21 (by simp [haf])
        have e60 := rd HA.out 60 (by kernel_rfl) rfl
        refine ⟨?_⟩
        go_simp
        refine hK (upd U 2 (U 60)) _ _ ?_ ?_
        · rw [HA.out]; kernel_rfl
        · exact ⟨fb, fk, fs, oA, oJ, oL, f0, f1, f2, f3, f4, f5, f6, f7, f8, f9, f10, f11, f12, f13, f14, f15, f16, f17, f18, f19, f20, f21, (fun _ => g21)⟩
    intro L U7 V7 hall hF
    have hbw0 := hbw
    clear hbw
    obtain ⟨hbw, fk, fs, oA, oJ, oL, f0, f1, f2, f3, f4, f5, f6, f7, f8, f9, f10, f11, f12, f13, f14, f15, f16, f17, f18, f19, f20, f21, f22⟩ := hF
    have g0 := f0 (hall 0 (by decide))
    have g1 := f1 (hall 1 (by decide))
    have g2 := f2 (hall 2 (by decide))
    have g3 := f3 (hall 3 (by decide))
    have g4 := f4 (hall 4 (by decide))
    have g5 := f5 (hall 5 (by decide))
    have g6 := f6 (hall 6 (by decide))
    have g7 := f7 (hall 7 (by decide))
    have g8 := f8 (hall 8 (by decide))
    have g9 := f9 (hall 9 (by decide))
    have g10 := f10 (hall 10 (by decide))
    have g11 := f11 (hall 11 (by decide))
    have g12 := f12 (hall 12 (by decide))
    have g13 := f13 (hall 13 (by decide))
    have g14 := f14 (hall 14 (by decide))
    have g15 := f15 (hall 15 (by decide))
    have g16 := f16 (hall 16 (by decide))
    have g17 := f17 (hall 17 (by decide))
    have g18 := f18 (hall 18 (by decide))
    have g19 := f19 (hall 19 (by decide))
    have g20 := f20 (hall 20 (by decide))
    have g21 := f21 (hall 21 (by decide))
    have g22 := f22 (hall 22 (by decide))
    clear hall f0 f1 f2 f3 f4 f5 f6 f7 f8 f9 f10 f11 f12 f13 f14 f15 f16 f17 f18 f19 f20 f21 f22
    replace hA := hA.keepI fk
    replace hI := hI.keepI fk
    replace hJ := hJ.keepI fk
    replace hL := hL.keepI fk
    replace ltA := Nat.lt_of_lt_of_le ltA fs
    replace ltJ := Nat.lt_of_lt_of_le ltJ fs
    replace ltL := Nat.lt_of_lt_of_le ltL fs
    clear g0
    clear g1
    clear g2
    clear g3
    clear g4
    clear g5
    clear g6
    clear g7
    clear g8
    clear g9
    clear g10
    clear g11
    clear g12
    clear g13
    clear g14
    clear g15
    clear g16
    clear g17
    clear g18
    clear g19
    clear g20
    clear g21
    clear hbw0
    simp only [setM_some, setM_none, setM_nil]
    clear ltI oI
    clear fk fs
    have eT : U7 2 = _ := g22
    try simp only []
    try go_at_K
    repeat (first | go_values | go_skip | go_guarded | go_step | go_upon)
    refine bodyPost_ret (v := (.bool true)) (by simp [results, Try.results5, go_sem, eT]) rfl ?_
    exact ⟨rfl, hbw⟩
end Go.Proofs.Ytidpbdhhbeaijab
