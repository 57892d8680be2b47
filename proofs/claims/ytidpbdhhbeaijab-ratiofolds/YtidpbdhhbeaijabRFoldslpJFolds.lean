/- One case of the walk of suretylaw02.RatioFolds. -/
import Derived.Test.YtidpbdhhbeaijabRFoldsAJFolds
namespace Go.Proofs.Ytidpbdhhbeaijab
open Go.RowKit
set_option maxRecDepth 20000 in
set_option maxHeartbeats 8000000 in
theorem ratioFolds_lp (ao : Option Addr) (n cap : Nat) (Sx : Nat → ByteArray) (t : Int) (w : World) (hS : Strs w ao n Sx) (hn' : n ≤ maxLen) (HN : Hid (12 < n)) (HT : Hid (0 ≤ t)) :
    Calls Try.prog 4 #[.slice ao n cap, .int .i64 t] w fun e w' => e = .returned (.bool true) ∧ Below w.heap.size w w' := by
  have hn : (n : Int) ≤ 9223372036854775807 := by unfold maxLen at hn'; omega
  clear hn'
  have oT := Blk.new w 3 #[.int .i64 t]
  have hb0 := below_new w (.cells #[.int .i64 t] 3 (0, 0))
  go_enter Try.func4, Try.ntmps4
  go_wp2_with fail
  refine (awake2_any _).mono ?_
  rintro e w1 ⟨rfl, hb1⟩
  have hbw := hb0.step hb1 (Nat.le_refl _)
  have oT1 := oT.stay hb1
  have hS1 := hS.below hbw
  clear hS oT hb0 hb1
  go_wp2
  go_loopw [5, 6] (fun v i wr => ∃ k : Nat, ∃ zs xs, k ≤ n ∧ k ≤ 12 ∧ i = .int .i64 k ∧ Hid (zs.length = k) ∧ Lst4 27 w1.heap.size wr v k xs ∧ Els4 wr xs zs ∧ Below w1.heap.size w1 wr) (fun _ i _ => 12 - (intOf i).toNat)
  case atStart => exact ⟨0, [], [], Nat.zero_le _, Nat.zero_le _, rfl, rfl, Lst4.nil _ _ _, Els4.nil _, Below.refl _ _⟩
  case round =>
    obtain ⟨k, zs, xs, hk, hk', rfl, HL, hL, hE, hB⟩ := hrel
    by_cases h0' : k < n ∧ k < 12
    · obtain ⟨h0, h1⟩ := h0'
      have hS2 := hS1.below hB
      rcases hS2 with hz | ⟨b, off, rfl, hcs⟩
      · omega
      obtain ⟨c0, hsz⟩ := hcs k h0
      obtain ⟨S, hSx⟩ : ∃ S, S = Sx k := ⟨_, rfl⟩
      rw [← hSx] at c0 hsz
      clear hcs hSx
      go_wp2_with fail
      refine (rat_any S _ hsz).mono ?_
      rintro e w2 ⟨z, x, a, m, c, x', a', m', c', y, d, l, f, y', d', l', f', rfl, kx, -, hb2⟩
      have hn1 := below_new w2 (.cells #[.bool x, .slice a m c, .bool x', .slice a' m' c'] 27 (0, 0))
      have hn2 := below_new (w2.alloc (.cells #[.bool x, .slice a m c, .bool x', .slice a' m' c'] 27 (0, 0))) (.cells #[.bool y, .slice d l f, .bool y', .slice d' l' f'] 32 (0, 0))
      have hb3 := (hb2.step hn1 (Nat.le_refl _)).step hn2 (Nat.le_refl _)
      have hL3 := hL.below hb3
      have hE3 := hE.keep (KeepI.below hb3)
      have hB3 := hB.step hb3 (Nat.le_refl _)
      have kx3 := (kx.below hn1).below hn2
      have hbase := hB3.size
      clear c0 hb2 hn1 hn2 hb3
      go_wp2_with (at_builtin; refine wpList_append_four rfl (.tmp 32) (.tmp 34) 43 rfl w1.heap.size 27 64 Try.underlying43 Try.info27 (by decide) _ k xs rfl hL3 x a m c x' a' m' c' _ rfl (by simp) (by omega) hbase ?_; intro v' w4 hL4 hK4 hbel4)
      go_roundw
      case rel =>
        refine ⟨k + 1, zs ++ [z], xs ++ [.bool x, .slice a m c, .bool x', .slice a' m' c'], by omega, by omega, by go_num, ?_, hL4, (hE3.keep hK4).push ?_ (kx3.keepI hK4), hB3.trans hbel4⟩
        · show _ = _
          rw [List.length_append, HL.out]; rfl
        · rw [HL.out]; exact hL.1
      case measure => simp [intOf]; omega
    · obtain ⟨ao1, cap1, rfl, hA⟩ := hL.arrQ hE HL.out
      replace hbw := hbw.step hB (Nat.le_refl _)
      have oT2 := oT1.stay hB
      have ltT := oT2.lt
      have h2 : (k : Int) < n ∧ ¬ (k : Int) < 12 := by have := HN.out; omega
      obtain ⟨h0, h1⟩ := h2
      have hn1 := below_new wr (.cells #[.int .i64 0] 3 (0, 0))
      have oS := Blk.new wr 3 #[.int .i64 0]
      have oT3 := oT2.stay hn1
      have hA3 := hA.below hn1
      replace hbw := hbw.step hn1 (Nat.le_refl _)
      clear hL hE hB h0' hS1 oT1 oT2 hn1 hA
      all_goals
        go_wp2_with fail
        refine (fold_step ao1 k cap1 zs t wr.heap.size w.heap.size _ HL.out (by omega) hA3 oS oT3 (Nat.ne_of_lt ltT)).mono ?_
        rintro e w2 ⟨i1, i2, i3, i4, i5, i6, i7, i8, rfl, k2, hb2, oS2⟩
        have hn2 := below_new w2 (.cells #[.bool i1, .slice i2 i3 i4, .bool i5, .slice i6 i7 i8] 27 (0, 0))
        have oL := Blk.new w2 27 #[.bool i1, .slice i2 i3 i4, .bool i5, .slice i6 i7 i8]
        have hle : w.heap.size ≤ wr.heap.size := Nat.le_of_lt ltT
        replace oT3 := (hb2.blk oT3 (Nat.ne_of_lt ltT)).stay hn2
        replace hA3 := (hA3.butS hb2 oS).below hn2
        replace hbw := (hbw.trans (hb2.below hle hbw.size)).step hn2 (Nat.le_refl _)
        replace oS2 := oS2.stay hn2
        replace k2 := k2.below hn2
        clear hb2 hn2 oS ltT hle
        by_cases hin : 0 ≤ t ∧ t < (k : Int)
        · have e1 : foC k t = 2 := if_pos hin
          have e2 : foZ zs t = 0 := if_pos (by rw [HL.out]; exact hin)
          have e3 : foN k t = t := if_pos hin
          rw [e3] at oS2
          rw [e2] at k2
          rw [e1]
          obtain ⟨ht0, ht1⟩ := hin
          clear e1 e2 e3
          obtain ⟨T0, -⟩ := oT3.one
          obtain ⟨S0, -⟩ := oS2.one
          obtain ⟨l0, l1, l2, l3⟩ := oL.four
          have ltT := oT3.lt
          have ltS := oS2.lt
          have ltL := oL.lt
          go_wp2_with fail
          refine (qsign_any _ 0 0 _ k2.val rfl).mono ?_
          rintro e w3 ⟨rfl, hb3⟩
          go_wp2
          refine bodyPost_ret (v := .bool true) (by simp [results, Try.results4, go_sem]) rfl ?_
          exact ⟨rfl, hbw.step hb3 (Nat.le_refl _)⟩
        · have e1 : foC k t = 0 := if_neg hin
          have e2 : foZ zs t = lastZ zs k := (if_neg (by rw [HL.out]; exact hin)).trans (by rw [HL.out])
          have e3 : foN k t = k := if_neg hin
          rw [e3] at oS2
          rw [e2] at k2
          rw [e1]
          have ht0 : 0 ≤ t := HT.out
          have ht1 : ¬ t < (k : Int) := by omega
          clear e1 e2 e3 hin
          obtain ⟨T0, -⟩ := oT3.one
          have ltT := oT3.lt
          have ltbS := oS2.lt
          have ltbL := oL.lt
          have hle := hbw.size
          by_cases hk0 : k = 0
          · subst hk0
            exfalso; omega
          · obtain ⟨m, rfl⟩ : ∃ m, k = m + 1 := ⟨k - 1, by omega⟩
            obtain ⟨z, hzd⟩ : ∃ z, z = zs.getD m 0 := ⟨_, rfl⟩
            rw [show lastZ zs (m + 1) = z from hzd.symm] at k2
            have hkz : m < zs.length := by rw [HL.out]; omega
            obtain ⟨g, o, rfl⟩ := hA3.at m hkz
            rcases hA3 with hnil | ⟨g', o', he, hc⟩
            · subst hnil; simp at hkz
            cases he
            obtain ⟨x, a, ma, c, x', a', m', c', a0, a1, a2, a3, hz⟩ := hc m hkz
            rw [← hzd] at hz
            have ltg := World.block_lt_of_cell? _ _ a0
            simp only at ltg
            clear hc hkz hzd hk0
            have S0 := oS2.one.1
            rw [show ((m + 1 : Nat) : Int) = (m : Int) + 1 from rfl] at S0
            obtain ⟨l0, l1, l2, l3⟩ := oL.four
            have hm11 : (m : Int) ≤ 11 := by omega
            have hm0 : ((m : Int) + 1 == 0) = false := by rw [beq_eq_false_iff_ne]; omega
            all_goals
              go_wp2
              generalize w2.alloc (.cells #[.bool i1, .slice i2 i3 i4, .bool i5, .slice i6 i7 i8] 27 (0, 0)) = W at hbw T0 S0 ltbS ltbL hle k2 hz l0 l1 l2 l3 a0 a1 a2 a3 ltg ⊢
              generalize wr.heap.size = bS at S0 ltbS ⊢
              generalize w2.heap.size = bL at ltbL l0 l1 l2 l3 ⊢
              have hbR : Below W.heap.size W W := Below.refl _ _
              refine wp_region_M (by kernel_rfl) [4, 63, 64, 65, 66, 67, 68, 69, 70, 71, 72, 73, 74, 75, 76, 77, 78, 79, 80, 81, 82, 83, 84, 85] [none, none, none, none, some 4, none, none, none, none, none, none, none, none, none, none, none, none, none, none, none, none, none, none, none, none, none, none, none, none, none, none, none, none, none, none, none, none, none, none, none, none, none, none, none, none, none, none, none, none, none, none, none, none, none, none, none, none, none, none, none, none, none, none, some 63, some 64, some 65, some 66, some 67, some 68, some 69, some 70, some 71, some 72, some 73, some 74, some 75, some 76, some 77, some 78, some 79, some 80, some 81, some 82, some 83, some 84, some 85] (fun U => by kernel_rfl) (fun L U wr => Below W.heap.size W wr ∧ KeepI W wr ∧ W.heap.size ≤ wr.heap.size ∧ (L 0 = true → IS (.int .i64 0) (U 63) wr) ∧ (L 1 = true → IS (.bool true) (U 64) wr) ∧ (L 2 = true → IS (.bool true) (U 65) wr) ∧ (L 3 = true → IS (.int .i64 ((m : Int) + 1)) (U 66) wr) ∧ (L 4 = true → IS (.slice (some ⟨g, o, none⟩) (m + 1) cap1) (U 67) wr) ∧ (L 5 = true → IS (.int .i64 ((m : Int) + 1)) (U 68) wr) ∧ (L 6 = true → IS (.bool true) (U 69) wr) ∧ (L 7 = true → IS (.bool true) (U 70) wr) ∧ (L 8 = true → IS (.bool true) (U 71) wr) ∧ (L 9 = true → IS (.int .i64 ((m : Int) + 1)) (U 72) wr) ∧ (L 10 = true → IS (.bool false) (U 73) wr) ∧ (L 11 = true → IS (.bool false) (U 74) wr) ∧ (L 12 = true → IS (.agg #[.bool i1, .slice i2 i3 i4, .bool i5, .slice i6 i7 i8]) (U 75) wr) ∧ (L 13 = true → TXQ z (U 76) wr) ∧ (L 14 = true → IS (.slice (some ⟨g, o, none⟩) (m + 1) cap1) (U 77) wr) ∧ (L 15 = true → IS (.int .i64 ((m : Int) + 1)) (U 78) wr) ∧ (L 16 = true → IS (.int .i64 (m : Int)) (U 79) wr) ∧ (L 17 = true → IS (.pointer (some ⟨g, o + m * 4, none⟩)) (U 80) wr) ∧ (L 18 = true → IS (.agg #[.bool x, .slice a ma c, .bool x', .slice a' m' c']) (U 81) wr) ∧ (L 19 = true → TXQ z (U 82) wr) ∧ (L 20 = true → IS (.bool true) (U 83) wr) ∧ (L 21 = true → IS (.bool true) (U 84) wr) ∧ (L 22 = true → IS (.bool true) (U 85) wr) ∧ (L 23 = true → IS (.bool true) (U 4) wr)) (by kernel_rfl) ?_ ?_ ?_
              · exact fun U => ⟨hbR.drew, KeepI.below (Below.refl _ _).drew, Nat.le_refl _, (fun h => by cases h), (fun h => by cases h), (fun h => by cases h), (fun h => by cases h), (fun h => by cases h), (fun h => by cases h), (fun h => by cases h), (fun h => by cases h), (fun h => by cases h), (fun h => by cases h), (fun h => by cases h), (fun h => by cases h), (fun h => by cases h), (fun h => by cases h), (fun h => by cases h), (fun h => by cases h), (fun h => by cases h), (fun h => by cases h), (fun h => by cases h), (fun h => by cases h), (fun h => by cases h), (fun h => by cases h), (fun h => by cases h), (fun h => by cases h)⟩
              · refine StepsU.run rfl ?_ ?_
                · intro L U wr hF hlk haf A K hA hK
                  have HA : Hid (A = putAll _ _ U) := hA
                  clear hA
                  simp [Aft, Region.binds] at haf
                  obtain ⟨fb, fk, fs, f0, f1, f2, f3, f4, f5, f6, f7, f8, f9, f10, f11, f12, f13, f14, f15, f16, f17, f18, f19, f20, f21, f22, f23⟩ := hF
                  have e11 : A.tmps[11]? = some (.int .i64 0) := by rw [HA.out]; kernel_rfl
                  refine ⟨?_⟩
                  go_simp
                  refine hK (upd U 63 (.int .i64 0)) _ _ ?_ ?_
                  · rw [HA.out]; kernel_rfl
                  · exact ⟨fb, fk, fs, (fun _ => rfl), f1, f2, f3, f4, f5, f6, f7, f8, f9, f10, f11, f12, f13, f14, f15, f16, f17, f18, f19, f20, f21, f22, f23⟩
                refine StepsU.run rfl ?_ ?_
                · intro L U wr hF hlk haf A K hA hK
                  have HA : Hid (A = putAll _ _ U) := hA
                  clear hA
                  simp [Aft, Region.binds] at haf
                  obtain ⟨fb, fk, fs, f0, f1, f2, f3, f4, f5, f6, f7, f8, f9, f10, f11, f12, f13, f14, f15, f16, f17, f18, f19, f20, f21, f22, f23⟩ := hF
                  have g0 := f0 (by simp [haf])
                  have e63 := rd HA.out 63 (by kernel_rfl) g0
                  refine ⟨?_⟩
                  go_simp
                  refine hK (upd U 64 (.bool true)) _ _ ?_ ?_
                  · rw [HA.out]; kernel_rfl
                  · exact ⟨fb, fk, fs, f0, (fun _ => rfl), f2, f3, f4, f5, f6, f7, f8, f9, f10, f11, f12, f13, f14, f15, f16, f17, f18, f19, f20, f21, f22, f23⟩
                refine StepsU.run rfl ?_ ?_
                · intro L U wr hF hlk haf A K hA hK
                  have HA : Hid (A = putAll _ _ U) := hA
                  clear hA
                  simp [Aft, Region.binds] at haf
                  obtain ⟨fb, fk, fs, f0, f1, f2, f3, f4, f5, f6, f7, f8, f9, f10, f11, f12, f13, f14, f15, f16, f17, f18, f19, f20, f21, f22, f23⟩ := hF
                  have g1 := f1 (by simp [haf])
                  have e64 := rd HA.out 64 (by kernel_rfl) rfl
                  refine ⟨?_⟩
                  go_simp
                  refine hK (upd U 65 (U 64)) _ _ ?_ ?_
                  · rw [HA.out]; kernel_rfl
                  · exact ⟨fb, fk, fs, f0, f1, (fun _ => g1), f3, f4, f5, f6, f7, f8, f9, f10, f11, f12, f13, f14, f15, f16, f17, f18, f19, f20, f21, f22, f23⟩
                refine StepsU.cond ?_ ?_
                · intro L U wr hF hlk haf A K hA hK
                  have HA : Hid (A = putAll _ _ U) := hA
                  clear hA
                  simp [Aft, Region.binds] at haf
                  obtain ⟨fb, fk, fs, f0, f1, f2, f3, f4, f5, f6, f7, f8, f9, f10, f11, f12, f13, f14, f15, f16, f17, f18, f19, f20, f21, f22, f23⟩ := hF
                  have gg := f2 (by simp [haf])
                  have ee := rd HA.out 65 (by kernel_rfl) gg
                  refine ⟨?_⟩
                  rw [if_pos (by simp [Region.wanted, yielded, ee])]
                  refine Gate.out ?_
                  clear gg ee
                  have e9 : A.tmps[9]? = some (.pointer (some ⟨bS, 0, none⟩)) := by rw [HA.out]; kernel_rfl
                  have c0 := (fb.cell (p := ⟨bS, 0, none⟩) ltbS).trans S0
                  refine ⟨?_⟩
                  go_simp
                  refine hK (upd U 66 (.int .i64 ((m : Int) + 1))) _ _ ?_ ?_
                  · rw [HA.out]; kernel_rfl
                  · exact ⟨fb, fk, fs, f0, f1, f2, (fun _ => rfl), f4, f5, f6, f7, f8, f9, f10, f11, f12, f13, f14, f15, f16, f17, f18, f19, f20, f21, f22, f23⟩
                refine StepsU.cond ?_ ?_
                · intro L U wr hF hlk haf A K hA hK
                  have HA : Hid (A = putAll _ _ U) := hA
                  clear hA
                  simp [Aft, Region.binds] at haf
                  obtain ⟨fb, fk, fs, f0, f1, f2, f3, f4, f5, f6, f7, f8, f9, f10, f11, f12, f13, f14, f15, f16, f17, f18, f19, f20, f21, f22, f23⟩ := hF
                  have gg := f2 (by simp [haf])
                  have ee := rd HA.out 65 (by kernel_rfl) gg
                  refine ⟨?_⟩
                  rw [if_pos (by simp [Region.wanted, yielded, ee])]
                  refine Gate.out ?_
                  clear gg ee
                  have e5 : A.tmps[5]? = some (.slice (some ⟨g, o, none⟩) (m + 1) cap1) := by rw [HA.out]; kernel_rfl
                  refine ⟨?_⟩
                  go_simp
                  refine hK (upd U 67 (.slice (some ⟨g, o, none⟩) (m + 1) cap1)) _ _ ?_ ?_
                  · rw [HA.out]; kernel_rfl
                  · exact ⟨fb, fk, fs, f0, f1, f2, f3, (fun _ => rfl), f5, f6, f7, f8, f9, f10, f11, f12, f13, f14, f15, f16, f17, f18, f19, f20, f21, f22, f23⟩
                refine StepsU.cond ?_ ?_
                · intro L U wr hF hlk haf A K hA hK
                  have HA : Hid (A = putAll _ _ U) := hA
                  clear hA
                  simp [Aft, Region.binds] at haf
                  obtain ⟨fb, fk, fs, f0, f1, f2, f3, f4, f5, f6, f7, f8, f9, f10, f11, f12, f13, f14, f15, f16, f17, f18, f19, f20, f21, f22, f23⟩ := hF
                  have gg := f2 (by simp [haf])
                  have ee := rd HA.out 65 (by kernel_rfl) gg
                  refine ⟨?_⟩
                  rw [if_pos (by simp [Region.wanted, yielded, ee])]
                  refine Gate.out ?_
                  clear gg ee
                  have g4 := f4 (by simp [haf])
                  have e67 := rd HA.out 67 (by kernel_rfl) g4
                  refine ⟨?_⟩
                  go_simp
                  refine hK (upd U 68 (.int .i64 ((m : Int) + 1))) _ _ ?_ ?_
                  · rw [HA.out]; kernel_rfl
                  · exact ⟨fb, fk, fs, f0, f1, f2, f3, f4, (fun _ => rfl), f6, f7, f8, f9, f10, f11, f12, f13, f14, f15, f16, f17, f18, f19, f20, f21, f22, f23⟩
                refine StepsU.cond ?_ ?_
                · intro L U wr hF hlk haf A K hA hK
                  have HA : Hid (A = putAll _ _ U) := hA
                  clear hA
                  simp [Aft, Region.binds] at haf
                  obtain ⟨fb, fk, fs, f0, f1, f2, f3, f4, f5, f6, f7, f8, f9, f10, f11, f12, f13, f14, f15, f16, f17, f18, f19, f20, f21, f22, f23⟩ := hF
                  have gg := f2 (by simp [haf])
                  have ee := rd HA.out 65 (by kernel_rfl) gg
                  refine ⟨?_⟩
                  rw [if_pos (by simp [Region.wanted, yielded, ee])]
                  refine Gate.out ?_
                  clear gg ee
                  have g3 := f3 (by simp [haf])
                  have g5 := f5 (by simp [haf])
                  have e66 := rd HA.out 66 (by kernel_rfl) g3
                  have e68 := rd HA.out 68 (by kernel_rfl) g5
                  refine ⟨?_⟩
                  go_simp
                  refine hK (upd U 69 (.bool true)) _ _ ?_ ?_
                  · rw [HA.out]; kernel_rfl
                  · exact ⟨fb, fk, fs, f0, f1, f2, f3, f4, f5, (fun _ => rfl), f7, f8, f9, f10, f11, f12, f13, f14, f15, f16, f17, f18, f19, f20, f21, f22, f23⟩
                refine StepsU.run rfl ?_ ?_
                · intro L U wr hF hlk haf A K hA hK
                  have HA : Hid (A = putAll _ _ U) := hA
                  clear hA
                  simp [Aft, Region.binds] at haf
                  obtain ⟨fb, fk, fs, f0, f1, f2, f3, f4, f5, f6, f7, f8, f9, f10, f11, f12, f13, f14, f15, f16, f17, f18, f19, f20, f21, f22, f23⟩ := hF
                  have g2 := f2 (by simp [haf])
                  have g6 := f6 (by simp [haf])
                  have e65 := rd HA.out 65 (by kernel_rfl) g2
                  have e69 := rd HA.out 69 (by kernel_rfl) g6
                  refine ⟨?_⟩
                  go_simp
                  refine hK (upd U 70 (.bool true)) _ _ ?_ ?_
                  · rw [HA.out]; kernel_rfl
                  · exact ⟨fb, fk, fs, f0, f1, f2, f3, f4, f5, f6, (fun _ => rfl), f8, f9, f10, f11, f12, f13, f14, f15, f16, f17, f18, f19, f20, f21, f22, f23⟩
                refine StepsU.run rfl ?_ ?_
                · intro L U wr hF hlk haf A K hA hK
                  have HA : Hid (A = putAll _ _ U) := hA
                  clear hA
                  simp [Aft, Region.binds] at haf
                  obtain ⟨fb, fk, fs, f0, f1, f2, f3, f4, f5, f6, f7, f8, f9, f10, f11, f12, f13, f14, f15, f16, f17, f18, f19, f20, f21, f22, f23⟩ := hF
                  have g7 := f7 (by simp [haf])
                  have e70 := rd HA.out 70 (by kernel_rfl) rfl
                  refine ⟨?_⟩
                  go_simp
                  refine hK (upd U 71 (U 70)) _ _ ?_ ?_
                  · rw [HA.out]; kernel_rfl
                  · exact ⟨fb, fk, fs, f0, f1, f2, f3, f4, f5, f6, f7, (fun _ => g7), f9, f10, f11, f12, f13, f14, f15, f16, f17, f18, f19, f20, f21, f22, f23⟩
                refine StepsU.cond ?_ ?_
                · intro L U wr hF hlk haf A K hA hK
                  have HA : Hid (A = putAll _ _ U) := hA
                  clear hA
                  simp [Aft, Region.binds] at haf
                  obtain ⟨fb, fk, fs, f0, f1, f2, f3, f4, f5, f6, f7, f8, f9, f10, f11, f12, f13, f14, f15, f16, f17, f18, f19, f20, f21, f22, f23⟩ := hF
                  have gg := f8 (by simp [haf])
                  have ee := rd HA.out 71 (by kernel_rfl) gg
                  refine ⟨?_⟩
                  rw [if_pos (by simp [Region.wanted, yielded, ee])]
                  refine Gate.out ?_
                  clear gg ee
                  have e9 : A.tmps[9]? = some (.pointer (some ⟨bS, 0, none⟩)) := by rw [HA.out]; kernel_rfl
                  have c0 := (fb.cell (p := ⟨bS, 0, none⟩) ltbS).trans S0
                  refine ⟨?_⟩
                  go_simp
                  refine hK (upd U 72 (.int .i64 ((m : Int) + 1))) _ _ ?_ ?_
                  · rw [HA.out]; kernel_rfl
                  · exact ⟨fb, fk, fs, f0, f1, f2, f3, f4, f5, f6, f7, f8, (fun _ => rfl), f10, f11, f12, f13, f14, f15, f16, f17, f18, f19, f20, f21, f22, f23⟩
                refine StepsU.cond ?_ ?_
                · intro L U wr hF hlk haf A K hA hK
                  have HA : Hid (A = putAll _ _ U) := hA
                  clear hA
                  simp [Aft, Region.binds] at haf
                  obtain ⟨fb, fk, fs, f0, f1, f2, f3, f4, f5, f6, f7, f8, f9, f10, f11, f12, f13, f14, f15, f16, f17, f18, f19, f20, f21, f22, f23⟩ := hF
                  have gg := f8 (by simp [haf])
                  have ee := rd HA.out 71 (by kernel_rfl) gg
                  refine ⟨?_⟩
                  rw [if_pos (by simp [Region.wanted, yielded, ee])]
                  refine Gate.out ?_
                  clear gg ee
                  have g9 := f9 (by simp [haf])
                  have e72 := rd HA.out 72 (by kernel_rfl) g9
                  refine ⟨?_⟩
                  go_simp
                  refine hK (upd U 73 (.bool false)) _ _ ?_ ?_
                  · rw [HA.out]; kernel_rfl
                  · exact ⟨fb, fk, fs, f0, f1, f2, f3, f4, f5, f6, f7, f8, f9, (fun _ => rfl), f11, f12, f13, f14, f15, f16, f17, f18, f19, f20, f21, f22, f23⟩
                refine StepsU.cond ?_ ?_
                · intro L U wr hF hlk haf A K hA hK
                  have HA : Hid (A = putAll _ _ U) := hA
                  clear hA
                  simp [Aft, Region.binds] at haf
                  obtain ⟨fb, fk, fs, f0, f1, f2, f3, f4, f5, f6, f7, f8, f9, f10, f11, f12, f13, f14, f15, f16, f17, f18, f19, f20, f21, f22, f23⟩ := hF
                  have gg := f8 (by simp [haf])
                  have ee := rd HA.out 71 (by kernel_rfl) gg
                  refine ⟨?_⟩
                  rw [if_pos (by simp [Region.wanted, yielded, ee])]
                  refine Gate.out ?_
                  clear gg ee
                  have g10 := f10 (by simp [haf])
                  have e73 := rd HA.out 73 (by kernel_rfl) rfl
                  refine ⟨?_⟩
                  go_simp
                  refine hK (upd U 74 (U 73)) _ _ ?_ ?_
                  · rw [HA.out]; kernel_rfl
                  · exact ⟨fb, fk, fs, f0, f1, f2, f3, f4, f5, f6, f7, f8, f9, f10, (fun _ => g10), f12, f13, f14, f15, f16, f17, f18, f19, f20, f21, f22, f23⟩
                refine StepsU.cond ?_ ?_
                · intro L U wr hF hlk haf A K hA hK
                  have HA : Hid (A = putAll _ _ U) := hA
                  clear hA
                  simp [Aft, Region.binds] at haf
                  obtain ⟨fb, fk, fs, f0, f1, f2, f3, f4, f5, f6, f7, f8, f9, f10, f11, f12, f13, f14, f15, f16, f17, f18, f19, f20, f21, f22, f23⟩ := hF
                  have gg := f11 (by simp [haf])
                  have ee := rd HA.out 74 (by kernel_rfl) gg
                  refine ⟨?_⟩
                  rw [if_pos (by simp [Region.wanted, yielded, ee])]
                  refine Gate.out ?_
                  clear gg ee
                  have e10 : A.tmps[10]? = some (.pointer (some ⟨bL, 0, none⟩)) := by rw [HA.out]; kernel_rfl
                  have c0 := (fb.cell (p := ⟨bL, 0, none⟩) ltbL).trans l0
                  have c1 := (fb.cell (p := ⟨bL, 1, none⟩) ltbL).trans l1
                  have c2 := (fb.cell (p := ⟨bL, 2, none⟩) ltbL).trans l2
                  have c3 := (fb.cell (p := ⟨bL, 3, none⟩) ltbL).trans l3
                  refine ⟨?_⟩
                  go_simp
                  refine hK (upd U 75 (.agg #[.bool i1, .slice i2 i3 i4, .bool i5, .slice i6 i7 i8])) _ _ ?_ ?_
                  · rw [HA.out]; kernel_rfl
                  · exact ⟨fb, fk, fs, f0, f1, f2, f3, f4, f5, f6, f7, f8, f9, f10, f11, (fun _ => rfl), f13, f14, f15, f16, f17, f18, f19, f20, f21, f22, f23⟩
                refine StepsU.cond ?_ ?_
                · intro L U wr hF hlk haf A K hA hK
                  have HA : Hid (A = putAll _ _ U) := hA
                  clear hA
                  simp [Aft, Region.binds] at haf
                  obtain ⟨fb, fk, fs, f0, f1, f2, f3, f4, f5, f6, f7, f8, f9, f10, f11, f12, f13, f14, f15, f16, f17, f18, f19, f20, f21, f22, f23⟩ := hF
                  have gg := f11 (by simp [haf])
                  have ee := rd HA.out 74 (by kernel_rfl) gg
                  refine ⟨?_⟩
                  rw [if_pos (by simp [Region.wanted, yielded, ee])]
                  refine Gate.out ?_
                  clear gg ee
                  have g12 := f12 (by simp [haf])
                  have e75 := rd HA.out 75 (by kernel_rfl) g12
                  refine ⟨?_⟩
                  go_simp
                  refine (qtext_any _ z _ (k2.val.keepI fk)).mono ?_
                  rintro e w1 ⟨S, rfl, hS, hb⟩
                  go_simp
                  refine hK (upd U 76 (.string S)) _ _ ?_ ?_
                  · rw [HA.out]; kernel_rfl
                  · exact ⟨(fb.step hb (Nat.le_refl _)), (fk.trans (KeepI.below hb)), (Nat.le_trans fs hb.size), (mv mo_is (KeepI.below hb) f0), (mv mo_is (KeepI.below hb) f1), (mv mo_is (KeepI.below hb) f2), (mv mo_is (KeepI.below hb) f3), (mv mo_is (KeepI.below hb) f4), (mv mo_is (KeepI.below hb) f5), (mv mo_is (KeepI.below hb) f6), (mv mo_is (KeepI.below hb) f7), (mv mo_is (KeepI.below hb) f8), (mv mo_is (KeepI.below hb) f9), (mv mo_is (KeepI.below hb) f10), (mv mo_is (KeepI.below hb) f11), (mv mo_is (KeepI.below hb) f12), (fun _ => ⟨S, rfl, hS⟩), (mv mo_is (KeepI.below hb) f14), (mv mo_is (KeepI.below hb) f15), (mv mo_is (KeepI.below hb) f16), (mv mo_is (KeepI.below hb) f17), (mv mo_is (KeepI.below hb) f18), (mv mo_txq (KeepI.below hb) f19), (mv mo_is (KeepI.below hb) f20), (mv mo_is (KeepI.below hb) f21), (mv mo_is (KeepI.below hb) f22), (mv mo_is (KeepI.below hb) f23)⟩
                refine StepsU.cond ?_ ?_
                · intro L U wr hF hlk haf A K hA hK
                  have HA : Hid (A = putAll _ _ U) := hA
                  clear hA
                  simp [Aft, Region.binds] at haf
                  obtain ⟨fb, fk, fs, f0, f1, f2, f3, f4, f5, f6, f7, f8, f9, f10, f11, f12, f13, f14, f15, f16, f17, f18, f19, f20, f21, f22, f23⟩ := hF
                  have gg := f11 (by simp [haf])
                  have ee := rd HA.out 74 (by kernel_rfl) gg
                  refine ⟨?_⟩
                  rw [if_pos (by simp [Region.wanted, yielded, ee])]
                  refine Gate.out ?_
                  clear gg ee
                  have e5 : A.tmps[5]? = some (.slice (some ⟨g, o, none⟩) (m + 1) cap1) := by rw [HA.out]; kernel_rfl
                  refine ⟨?_⟩
                  go_simp
                  refine hK (upd U 77 (.slice (some ⟨g, o, none⟩) (m + 1) cap1)) _ _ ?_ ?_
                  · rw [HA.out]; kernel_rfl
                  · exact ⟨fb, fk, fs, f0, f1, f2, f3, f4, f5, f6, f7, f8, f9, f10, f11, f12, f13, (fun _ => rfl), f15, f16, f17, f18, f19, f20, f21, f22, f23⟩
                refine StepsU.cond ?_ ?_
                · intro L U wr hF hlk haf A K hA hK
                  have HA : Hid (A = putAll _ _ U) := hA
                  clear hA
                  simp [Aft, Region.binds] at haf
                  obtain ⟨fb, fk, fs, f0, f1, f2, f3, f4, f5, f6, f7, f8, f9, f10, f11, f12, f13, f14, f15, f16, f17, f18, f19, f20, f21, f22, f23⟩ := hF
                  have gg := f11 (by simp [haf])
                  have ee := rd HA.out 74 (by kernel_rfl) gg
                  refine ⟨?_⟩
                  rw [if_pos (by simp [Region.wanted, yielded, ee])]
                  refine Gate.out ?_
                  clear gg ee
                  have e9 : A.tmps[9]? = some (.pointer (some ⟨bS, 0, none⟩)) := by rw [HA.out]; kernel_rfl
                  have c0 := (fb.cell (p := ⟨bS, 0, none⟩) ltbS).trans S0
                  refine ⟨?_⟩
                  go_simp
                  refine hK (upd U 78 (.int .i64 ((m : Int) + 1))) _ _ ?_ ?_
                  · rw [HA.out]; kernel_rfl
                  · exact ⟨fb, fk, fs, f0, f1, f2, f3, f4, f5, f6, f7, f8, f9, f10, f11, f12, f13, f14, (fun _ => rfl), f16, f17, f18, f19, f20, f21, f22, f23⟩
                refine StepsU.cond ?_ ?_
                · intro L U wr hF hlk haf A K hA hK
                  have HA : Hid (A = putAll _ _ U) := hA
                  clear hA
                  simp [Aft, Region.binds] at haf
                  obtain ⟨fb, fk, fs, f0, f1, f2, f3, f4, f5, f6, f7, f8, f9, f10, f11, f12, f13, f14, f15, f16, f17, f18, f19, f20, f21, f22, f23⟩ := hF
                  have gg := f11 (by simp [haf])
                  have ee := rd HA.out 74 (by kernel_rfl) gg
                  refine ⟨?_⟩
                  rw [if_pos (by simp [Region.wanted, yielded, ee])]
                  refine Gate.out ?_
                  clear gg ee
                  have g15 := f15 (by simp [haf])
                  have e78 := rd HA.out 78 (by kernel_rfl) g15
                  refine ⟨?_⟩
                  go_simp
                  refine hK (upd U 79 (.int .i64 (IntKind.i64.wrap (m : Int)))) _ _ ?_ ?_
                  · rw [HA.out]; kernel_rfl
                  · exact ⟨fb, fk, fs, f0, f1, f2, f3, f4, f5, f6, f7, f8, f9, f10, f11, f12, f13, f14, f15, (fun _ => (by show Value.int _ _ = _; rw [show IntKind.i64.wrap (m : Int) = m by rw [IntKind.wrap_i64]; omega])), f17, f18, f19, f20, f21, f22, f23⟩
                refine StepsU.cond ?_ ?_
                · intro L U wr hF hlk haf A K hA hK
                  have HA : Hid (A = putAll _ _ U) := hA
                  clear hA
                  simp [Aft, Region.binds] at haf
                  obtain ⟨fb, fk, fs, f0, f1, f2, f3, f4, f5, f6, f7, f8, f9, f10, f11, f12, f13, f14, f15, f16, f17, f18, f19, f20, f21, f22, f23⟩ := hF
                  have gg := f11 (by simp [haf])
                  have ee := rd HA.out 74 (by kernel_rfl) gg
                  refine ⟨?_⟩
                  rw [if_pos (by simp [Region.wanted, yielded, ee])]
                  refine Gate.out ?_
                  clear gg ee
                  have g14 := f14 (by simp [haf])
                  have g16 := f16 (by simp [haf])
                  have hlt : (m : Int) < (m : Int) + 1 := by omega
                  have e77 := rd HA.out 77 (by kernel_rfl) g14
                  have e79 := rd HA.out 79 (by kernel_rfl) g16
                  refine ⟨?_⟩
                  go_simp
                  refine hK (upd U 80 (.pointer (some ⟨g, o + m * 4, none⟩))) _ _ ?_ ?_
                  · rw [HA.out]; kernel_rfl
                  · exact ⟨fb, fk, fs, f0, f1, f2, f3, f4, f5, f6, f7, f8, f9, f10, f11, f12, f13, f14, f15, f16, (fun _ => rfl), f18, f19, f20, f21, f22, f23⟩
                refine StepsU.cond ?_ ?_
                · intro L U wr hF hlk haf A K hA hK
                  have HA : Hid (A = putAll _ _ U) := hA
                  clear hA
                  simp [Aft, Region.binds] at haf
                  obtain ⟨fb, fk, fs, f0, f1, f2, f3, f4, f5, f6, f7, f8, f9, f10, f11, f12, f13, f14, f15, f16, f17, f18, f19, f20, f21, f22, f23⟩ := hF
                  have gg := f11 (by simp [haf])
                  have ee := rd HA.out 74 (by kernel_rfl) gg
                  refine ⟨?_⟩
                  rw [if_pos (by simp [Region.wanted, yielded, ee])]
                  refine Gate.out ?_
                  clear gg ee
                  have g17 := f17 (by simp [haf])
                  have c0 := (fb.cell (p := ⟨g, o + m * 4, none⟩) ltg).trans a0
                  have c1 := (fb.cell (p := ⟨g, o + m * 4 + 1, none⟩) ltg).trans a1
                  have c2 := (fb.cell (p := ⟨g, o + m * 4 + 2, none⟩) ltg).trans a2
                  have c3 := (fb.cell (p := ⟨g, o + m * 4 + 3, none⟩) ltg).trans a3
                  have e80 := rd HA.out 80 (by kernel_rfl) g17
                  refine ⟨?_⟩
                  go_simp
                  refine hK (upd U 81 (.agg #[.bool x, .slice a ma c, .bool x', .slice a' m' c'])) _ _ ?_ ?_
                  · rw [HA.out]; kernel_rfl
                  · exact ⟨fb, fk, fs, f0, f1, f2, f3, f4, f5, f6, f7, f8, f9, f10, f11, f12, f13, f14, f15, f16, f17, (fun _ => rfl), f19, f20, f21, f22, f23⟩
                refine StepsU.cond ?_ ?_
                · intro L U wr hF hlk haf A K hA hK
                  have HA : Hid (A = putAll _ _ U) := hA
                  clear hA
                  simp [Aft, Region.binds] at haf
                  obtain ⟨fb, fk, fs, f0, f1, f2, f3, f4, f5, f6, f7, f8, f9, f10, f11, f12, f13, f14, f15, f16, f17, f18, f19, f20, f21, f22, f23⟩ := hF
                  have gg := f11 (by simp [haf])
                  have ee := rd HA.out 74 (by kernel_rfl) gg
                  refine ⟨?_⟩
                  rw [if_pos (by simp [Region.wanted, yielded, ee])]
                  refine Gate.out ?_
                  clear gg ee
                  have g18 := f18 (by simp [haf])
                  have e81 := rd HA.out 81 (by kernel_rfl) g18
                  refine ⟨?_⟩
                  go_simp
                  refine (qtext_any _ z _ (hz.val.keepI fk)).mono ?_
                  rintro e w1 ⟨S, rfl, hS, hb⟩
                  go_simp
                  refine hK (upd U 82 (.string S)) _ _ ?_ ?_
                  · rw [HA.out]; kernel_rfl
                  · exact ⟨(fb.step hb (Nat.le_refl _)), (fk.trans (KeepI.below hb)), (Nat.le_trans fs hb.size), (mv mo_is (KeepI.below hb) f0), (mv mo_is (KeepI.below hb) f1), (mv mo_is (KeepI.below hb) f2), (mv mo_is (KeepI.below hb) f3), (mv mo_is (KeepI.below hb) f4), (mv mo_is (KeepI.below hb) f5), (mv mo_is (KeepI.below hb) f6), (mv mo_is (KeepI.below hb) f7), (mv mo_is (KeepI.below hb) f8), (mv mo_is (KeepI.below hb) f9), (mv mo_is (KeepI.below hb) f10), (mv mo_is (KeepI.below hb) f11), (mv mo_is (KeepI.below hb) f12), (mv mo_txq (KeepI.below hb) f13), (mv mo_is (KeepI.below hb) f14), (mv mo_is (KeepI.below hb) f15), (mv mo_is (KeepI.below hb) f16), (mv mo_is (KeepI.below hb) f17), (mv mo_is (KeepI.below hb) f18), (fun _ => ⟨S, rfl, hS⟩), (mv mo_is (KeepI.below hb) f20), (mv mo_is (KeepI.below hb) f21), (mv mo_is (KeepI.below hb) f22), (mv mo_is (KeepI.below hb) f23)⟩
                refine StepsU.cond ?_ ?_
                · intro L U wr hF hlk haf A K hA hK
                  have HA : Hid (A = putAll _ _ U) := hA
                  clear hA
                  simp [Aft, Region.binds] at haf
                  obtain ⟨fb, fk, fs, f0, f1, f2, f3, f4, f5, f6, f7, f8, f9, f10, f11, f12, f13, f14, f15, f16, f17, f18, f19, f20, f21, f22, f23⟩ := hF
                  have gg := f11 (by simp [haf])
                  have ee := rd HA.out 74 (by kernel_rfl) gg
                  refine ⟨?_⟩
                  rw [if_pos (by simp [Region.wanted, yielded, ee])]
                  refine Gate.out ?_
                  clear gg ee
                  have g13 := f13 (by simp [haf])
                  have g19 := f19 (by simp [haf])
                  obtain ⟨S, hS, hT⟩ := g13
                  obtain ⟨S2, hS2, hT2⟩ := g19
                  have tt : (S.toList == S2.toList) = true := by rw [hT.same hT2]; simp
                  have e76 := rd HA.out 76 (by kernel_rfl) hS
                  have e82 := rd HA.out 82 (by kernel_rfl) hS2
                  refine ⟨?_⟩
                  go_simp
                  refine hK (upd U 83 (.bool true)) _ _ ?_ ?_
                  · rw [HA.out]; kernel_rfl
                  · exact ⟨fb, fk, fs, f0, f1, f2, f3, f4, f5, f6, f7, f8, f9, f10, f11, f12, f13, f14, f15, f16, f17, f18, f19, (fun _ => rfl), f21, f22, f23⟩
                refine StepsU.cond ?_ ?_
                · intro L U wr hF hlk haf A K hA hK
                  have HA : Hid (A = putAll _ _ U) := hA
                  clear hA
                  simp [Aft, Region.binds] at haf
                  obtain ⟨fb, fk, fs, f0, f1, f2, f3, f4, f5, f6, f7, f8, f9, f10, f11, f12, f13, f14, f15, f16, f17, f18, f19, f20, f21, f22, f23⟩ := hF
                  have gg := f8 (by simp [haf])
                  have ee := rd HA.out 71 (by kernel_rfl) gg
                  refine ⟨?_⟩
                  rw [if_pos (by simp [Region.wanted, yielded, ee])]
                  refine Gate.out ?_
                  clear gg ee
                  have g11 := f11 (by simp [haf])
                  have g20 := f20 (by simp [haf])
                  have e74 := rd HA.out 74 (by kernel_rfl) g11
                  have e83 := rd HA.out 83 (by kernel_rfl) g20
                  refine ⟨?_⟩
                  go_simp
                  refine hK (upd U 84 (.bool true)) _ _ ?_ ?_
                  · rw [HA.out]; kernel_rfl
                  · exact ⟨fb, fk, fs, f0, f1, f2, f3, f4, f5, f6, f7, f8, f9, f10, f11, f12, f13, f14, f15, f16, f17, f18, f19, f20, (fun _ => rfl), f22, f23⟩
                refine StepsU.run rfl ?_ ?_
                · intro L U wr hF hlk haf A K hA hK
                  have HA : Hid (A = putAll _ _ U) := hA
                  clear hA
                  simp [Aft, Region.binds] at haf
                  obtain ⟨fb, fk, fs, f0, f1, f2, f3, f4, f5, f6, f7, f8, f9, f10, f11, f12, f13, f14, f15, f16, f17, f18, f19, f20, f21, f22, f23⟩ := hF
                  have g8 := f8 (by simp [haf])
                  have g21 := f21 (by simp [haf])
                  have e71 := rd HA.out 71 (by kernel_rfl) g8
                  have e84 := rd HA.out 84 (by kernel_rfl) g21
                  refine ⟨?_⟩
                  go_simp
                  refine hK (upd U 85 (.bool true)) _ _ ?_ ?_
                  · rw [HA.out]; kernel_rfl
                  · exact ⟨fb, fk, fs, f0, f1, f2, f3, f4, f5, f6, f7, f8, f9, f10, f11, f12, f13, f14, f15, f16, f17, f18, f19, f20, f21, (fun _ => rfl), f23⟩
                refine StepsU.run rfl ?_ StepsU.nil
                · intro L U wr hF hlk haf A K hA hK
                  have HA : Hid (A = putAll _ _ U) := hA
                  clear hA
                  simp [Aft, Region.binds] at haf
                  obtain ⟨fb, fk, fs, f0, f1, f2, f3, f4, f5, f6, f7, f8, f9, f10, f11, f12, f13, f14, f15, f16, f17, f18, f19, f20, f21, f22, f23⟩ := hF
                  have g22 := f22 (by simp [haf])
                  have e85 := rd HA.out 85 (by kernel_rfl) rfl
                  refine ⟨?_⟩
                  go_simp
                  refine hK (upd U 4 (U 85)) _ _ ?_ ?_
                  · rw [HA.out]; kernel_rfl
                  · exact ⟨fb, fk, fs, f0, f1, f2, f3, f4, f5, f6, f7, f8, f9, f10, f11, f12, f13, f14, f15, f16, f17, f18, f19, f20, f21, f22, (fun _ => g22)⟩
              intro L U2 w9 hall hF
              have hbw0 := hbR
              clear hbR
              obtain ⟨hbR, fk, fs, f0, f1, f2, f3, f4, f5, f6, f7, f8, f9, f10, f11, f12, f13, f14, f15, f16, f17, f18, f19, f20, f21, f22, f23⟩ := hF
              have g0 := f0 (hall 0 (by decide))
              have g1 := f1 (hall 1 (by decide))
              have g2 := f2 (hall 2 (by decide))
              have g3 := f3 (hall 3 (by decide))
              have g4 := f4 (hall 4 (by decide))
              have g5 := f5 (hall 5 (by decide))
              have g6 := f6 (hall 6 (by decide))
              have g7 := f7 (hall 7 (by decide))
              have g8 := f8 (hall 8 (by decide))
              have g9 := f9 (hall 9 (by decide))
              have g10 := f10 (hall 10 (by decide))
              have g11 := f11 (hall 11 (by decide))
              have g12 := f12 (hall 12 (by decide))
              have g13 := f13 (hall 13 (by decide))
              have g14 := f14 (hall 14 (by decide))
              have g15 := f15 (hall 15 (by decide))
              have g16 := f16 (hall 16 (by decide))
              have g17 := f17 (hall 17 (by decide))
              have g18 := f18 (hall 18 (by decide))
              have g19 := f19 (hall 19 (by decide))
              have g20 := f20 (hall 20 (by decide))
              have g21 := f21 (hall 21 (by decide))
              have g22 := f22 (hall 22 (by decide))
              have g23 := f23 (hall 23 (by decide))
              clear hall f0 f1 f2 f3 f4 f5 f6 f7 f8 f9 f10 f11 f12 f13 f14 f15 f16 f17 f18 f19 f20 f21 f22 f23
              clear hbw0
              simp only [setM_some, setM_none, setM_nil]
              have eR : U2 4 = _ := g23
              rw [eR]
              clear eR
              go_wp2
              refine bodyPost_ret (v := .bool true) (by simp [results, Try.results4, go_sem]) rfl ?_
              exact ⟨rfl, hbw.trans (Below.shr hbR hle)⟩
end Go.Proofs.Ytidpbdhhbeaijab
