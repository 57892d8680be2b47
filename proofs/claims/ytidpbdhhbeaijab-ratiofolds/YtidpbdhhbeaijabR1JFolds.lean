/- Contracts of suretyref02's Low and Parse; they prove no statement of the seat. -/
import Derived.Test.YtidpbdhhbeaijabQRJFolds
import Derived.Test.YtidpbdhhbeaijabCutJFolds
import Derived.Test.YtidpbdhhbeaijabRGcdJFolds
namespace Go.Proofs.Ytidpbdhhbeaijab
open Go.RowKit

set_option maxRecDepth 20000 in
set_option maxHeartbeats 8000000 in
theorem rparseq_no (s : ByteArray) (w : World) (hl : s.size ≤ 10000) (h : NoSl s) :
    Calls Try.prog 30 #[.string s] w fun e w' => ∃ s1 s2 s3 s4 s5 s6 s7 s8 co q, e = .returned (.tuple #[.agg #[.bool s1, .slice s2 s3 s4, .bool s5, .slice s6 s7 s8], .int .i64 co]) ∧ QRP w' s1 s2 s3 s4 s5 s6 s7 s8 q 400 ∧ Hid (PQ s co q) ∧ Below w.heap.size w w' := by
  have HS : Hid (NoSl s) := h
  clear h
  have oR := (Blk.new w 32 #[.bool false, .slice none 0 0, .bool false, .slice none 0 0])
  have hbw : Below w.heap.size w (w.alloc (.cells #[.bool false, .slice none 0 0, .bool false, .slice none 0 0] 32 (0, 0))) := by go_grown
  have ltR := oR.lt
  go_enter Try.func30, Try.ntmps30
  go_wp2
  go_loop [4] (fun v => ∃ i : Nat, i ≤ s.size ∧ v = .int .i64 i) (fun v => s.size - (intOf v).toNat)
  case atStart => exact ⟨0, Nat.zero_le _, rfl⟩
  case round =>
    obtain ⟨i, hi, rfl⟩ := hrel
    by_cases hlt : i < s.size
    · have hx : (((s[i]'hlt).toNat : Int) != 47) = true := by
        rw [bne_iff_ne, bs_get s i hlt]
        have := HS.out i hlt
        omega
      go_wp2
      go_round
      case rel => exact ⟨i + 1, by omega, by go_num⟩
      case measure => simp [intOf]; omega
    · obtain rfl : i = s.size := by omega
      have hx : (s.extract 0 s.size) = s := by
        apply bs_inj
        rw [bs_extract, List.drop_zero, ← bs_length, List.take_length]
      go_wp2_with fail
      refine (rparse_z s _ hl).mono ?_
      rintro e w1 ⟨xA, aA, nA, cA, co, z, rfl, hA, HP, hb⟩
      replace oR := oR.stay hb
      replace ltR := oR.lt
      replace hbw := hbw.step hb (Nat.le_refl _)
      clear hb
      have hn := below_new w1 (.cells #[.bool xA, .slice aA nA cA] 30 (0, 0))
      have oA := Blk.new w1 30 #[.bool xA, .slice aA nA cA]
      have neRA : w.heap.size ≠ w1.heap.size := Nat.ne_of_lt ltR
      have lwA : w.heap.size ≤ w1.heap.size := hbw.size
      replace oR := oR.stay hn
      replace ltR := oR.lt
      replace hA := hA.below hn
      replace hbw := hbw.step hn (Nat.le_refl _)
      clear hn
      have ltA := oA.lt
      obtain ⟨Ac0, Ac1, Aq0, Aq1⟩ := oA.two
      obtain ⟨Rc0, Rc1, Rc2, Rc3⟩ := oR.four
      obtain ⟨Rq0, Rq1, Rq2, Rq3⟩ := oR.frozen4
      go_wp2
      refine bodyPost_ret (v := (.tuple #[.agg #[.bool xA, .slice aA nA cA, .bool false, .slice none 0 0], .int .i64 co])) (by simp [results, Try.results30, go_sem, Rc0, Rc1, Rc2, Rc3]) rfl ?_
      exact ⟨_, _, _, _, _, _, _, _, _, _, rfl, (QRP.whole hA).keepI (keepI_four (noI_slice _ _ _) (noI_slice _ _ _) oR _ _ _ _ _ _ _ _), Or.inl ⟨HS.out, z, HP.out, rfl⟩, below_store4 hbw (by omega) _ _ _ _⟩

set_option maxRecDepth 20000 in
set_option maxHeartbeats 16000000 in
theorem rparseq_yes (s : ByteArray) (k : Nat) (w : World) (hl : s.size ≤ 10000) (h : Sl s k) :
    Calls Try.prog 30 #[.string s] w fun e w' => ∃ s1 s2 s3 s4 s5 s6 s7 s8 co q, e = .returned (.tuple #[.agg #[.bool s1, .slice s2 s3 s4, .bool s5, .slice s6 s7 s8], .int .i64 co]) ∧ QRP w' s1 s2 s3 s4 s5 s6 s7 s8 q 400 ∧ Hid (PQ s co q) ∧ Below w.heap.size w w' := by
  have HS : Hid (Sl s k) := h
  clear h
  have oR := (Blk.new w 32 #[.bool false, .slice none 0 0, .bool false, .slice none 0 0])
  have hbw : Below w.heap.size w (w.alloc (.cells #[.bool false, .slice none 0 0, .bool false, .slice none 0 0] 32 (0, 0))) := by go_grown
  have ltR := oR.lt
  go_enter Try.func30, Try.ntmps30
  have hk := HS.out.1
  go_wp2
  go_loop [4] (fun v => ∃ i : Nat, i ≤ k ∧ v = .int .i64 i) (fun v => k - (intOf v).toNat)
  case atStart => exact ⟨0, Nat.zero_le _, rfl⟩
  case round =>
    obtain ⟨i, hi, rfl⟩ := hrel
    have hlt : i < s.size := by omega
    by_cases hik : i = k
    · subst hik
      have hx : (((s[i]'hlt).toNat : Int) != 47) = false := by
        rw [bne_eq_false_iff_eq, bs_get s i hlt]
        have := HS.out.2.1
        omega
      have hne : ((i : Int) == (s.size : Int)) = false := by rw [beq_eq_false_iff_ne]; omega
      go_wp2_with fail
      refine (rparse_z (s.extract 0 i) _ (size_to s i hl)).mono ?_
      rintro e w1 ⟨xA, aA, nA, cA, c1, z1, rfl, hA, HP1, hb⟩
      replace oR := oR.stay hb
      replace ltR := oR.lt
      replace hbw := hbw.step hb (Nat.le_refl _)
      clear hb
      have hn := below_new w1 (.cells #[.bool xA, .slice aA nA cA] 30 (0, 0))
      have oA := Blk.new w1 30 #[.bool xA, .slice aA nA cA]
      have neRA : w.heap.size ≠ w1.heap.size := Nat.ne_of_lt ltR
      have lwA : w.heap.size ≤ w1.heap.size := hbw.size
      replace oR := oR.stay hn
      replace ltR := oR.lt
      replace hA := hA.below hn
      replace hbw := hbw.step hn (Nat.le_refl _)
      clear hn
      have ltA := oA.lt
      go_wp2_with fail
      refine (rparse_z (s.extract (i + 1) s.size) _ (size_from s (i + 1) hl)).mono ?_
      rintro e w2 ⟨xB, aB, nB, cB, c2, z2, rfl, hB, HP2, hb⟩
      replace oR := oR.stay hb
      replace ltR := oR.lt
      replace oA := oA.stay hb
      replace ltA := oA.lt
      replace hA := hA.below hb
      replace hbw := hbw.step hb (Nat.le_refl _)
      clear hb
      have hn := below_new w2 (.cells #[.bool xB, .slice aB nB cB] 30 (0, 0))
      have oB := Blk.new w2 30 #[.bool xB, .slice aB nB cB]
      have neRB : w.heap.size ≠ w2.heap.size := Nat.ne_of_lt ltR
      have neAB : w1.heap.size ≠ w2.heap.size := Nat.ne_of_lt ltA
      have lwB : w.heap.size ≤ w2.heap.size := hbw.size
      replace oR := oR.stay hn
      replace ltR := oR.lt
      replace oA := oA.stay hn
      replace ltA := oA.lt
      replace hA := hA.below hn
      replace hB := hB.below hn
      replace hbw := hbw.step hn (Nat.le_refl _)
      clear hn
      have ltB := oB.lt
      rcases HP1.out.codes with rfl | rfl | rfl
      · rcases HP2.out.codes with rfl | rfl | rfl
        · obtain ⟨Rc0, Rc1, Rc2, Rc3⟩ := oR.four
          obtain ⟨Rq0, Rq1, Rq2, Rq3⟩ := oR.frozen4
          go_wp2
          refine bodyPost_ret (v := (.tuple #[.agg #[.bool false, .slice none 0 0, .bool false, .slice none 0 0], .int .i64 10])) (by simp [results, Try.results30, go_sem, Rc0, Rc1, Rc2, Rc3]) rfl ?_
          refine ⟨_, _, _, _, _, _, _, _, _, 0, rfl, QRP.zero, Or.inr ⟨i, HS.out, _, _, _, _, HP1.out, HP2.out, Or.inl ⟨Or.inl rfl, rfl, rfl⟩⟩, ?_⟩
          first | exact hbw | exact below_store4 hbw (by omega) _ _ _ _
        · obtain ⟨Rc0, Rc1, Rc2, Rc3⟩ := oR.four
          obtain ⟨Rq0, Rq1, Rq2, Rq3⟩ := oR.frozen4
          go_wp2
          refine bodyPost_ret (v := (.tuple #[.agg #[.bool false, .slice none 0 0, .bool false, .slice none 0 0], .int .i64 10])) (by simp [results, Try.results30, go_sem, Rc0, Rc1, Rc2, Rc3]) rfl ?_
          refine ⟨_, _, _, _, _, _, _, _, _, 0, rfl, QRP.zero, Or.inr ⟨i, HS.out, _, _, _, _, HP1.out, HP2.out, Or.inl ⟨Or.inl rfl, rfl, rfl⟩⟩, ?_⟩
          first | exact hbw | exact below_store4 hbw (by omega) _ _ _ _
        · obtain ⟨Rc0, Rc1, Rc2, Rc3⟩ := oR.four
          obtain ⟨Rq0, Rq1, Rq2, Rq3⟩ := oR.frozen4
          go_wp2
          refine bodyPost_ret (v := (.tuple #[.agg #[.bool false, .slice none 0 0, .bool false, .slice none 0 0], .int .i64 10])) (by simp [results, Try.results30, go_sem, Rc0, Rc1, Rc2, Rc3]) rfl ?_
          refine ⟨_, _, _, _, _, _, _, _, _, 0, rfl, QRP.zero, Or.inr ⟨i, HS.out, _, _, _, _, HP1.out, HP2.out, Or.inl ⟨Or.inl rfl, rfl, rfl⟩⟩, ?_⟩
          first | exact hbw | exact below_store4 hbw (by omega) _ _ _ _
      · rcases HP2.out.codes with rfl | rfl | rfl
        · obtain ⟨Rc0, Rc1, Rc2, Rc3⟩ := oR.four
          obtain ⟨Rq0, Rq1, Rq2, Rq3⟩ := oR.frozen4
          go_wp2
          refine bodyPost_ret (v := (.tuple #[.agg #[.bool false, .slice none 0 0, .bool false, .slice none 0 0], .int .i64 10])) (by simp [results, Try.results30, go_sem, Rc0, Rc1, Rc2, Rc3]) rfl ?_
          refine ⟨_, _, _, _, _, _, _, _, _, 0, rfl, QRP.zero, Or.inr ⟨i, HS.out, _, _, _, _, HP1.out, HP2.out, Or.inl ⟨Or.inr rfl, rfl, rfl⟩⟩, ?_⟩
          first | exact hbw | exact below_store4 hbw (by omega) _ _ _ _
        · rcases Int.lt_trichotomy z2 1 with hz2 | hz2 | hz2
          · have HB : Hid (z2 ≤ 1 ∨ Int.gcd z1 z2 ≠ 1) := Or.inl (by omega)
            have HR : Hid ((z2 - 1).sign = (-1)) := Int.sign_eq_neg_one_of_neg (by omega)
            clear hz2
            go_wp2
            generalize (w2.alloc (.cells #[.bool xB, .slice aB nB cB] 30 (0, 0))) = W2 at hbw oR oA oB ltR ltA ltB hA hB ⊢
            refine wp_region_M (by kernel_rfl) [55, 56, 57, 58, 59, 60, 61, 62, 63, 64, 65, 66] [none, none, none, none, none, none, none, none, none, none, none, none, none, none, none, none, none, none, none, none, none, none, none, none, none, none, none, none, none, none, none, none, none, none, none, none, none, none, none, none, none, none, none, none, none, none, none, none, none, none, none, none, none, none, none, some 55, some 56, some 57, some 58, some 59, some 60, some 61, some 62, some 63, some 64, some 65, some 66] (fun U => by kernel_rfl) (fun L U wr => Below w.heap.size w wr ∧ KeepI W2 wr ∧ W2.heap.size ≤ wr.heap.size ∧ Blk 32 wr (w.heap.size) #[.bool false, .slice none 0 0, .bool false, .slice none 0 0] ∧ Blk 30 wr (w1.heap.size) #[.bool xA, .slice aA nA cA] ∧ Blk 30 wr (w2.heap.size) #[.bool xB, .slice aB nB cB] ∧ (L 0 = true → IS (.agg #[.bool xB, .slice aB nB cB]) (U 55) wr) ∧ (L 1 = true → RNM 1 20 (U 56) wr) ∧ (L 2 = true → IS (.int .i64 (-1)) (U 57) wr) ∧ (L 3 = true → IS (.bool true) (U 58) wr) ∧ (L 4 = true → IS (.bool true) (U 59) wr) ∧ (L 5 = true → IS undef (U 60) wr) ∧ (L 6 = true → IS undef (U 61) wr) ∧ (L 7 = true → IS undef (U 62) wr) ∧ (L 8 = true → IS undef (U 63) wr) ∧ (L 9 = true → IS undef (U 64) wr) ∧ (L 10 = true → IS undef (U 65) wr) ∧ (L 11 = true → IS (.bool true) (U 66) wr)) (by kernel_rfl) ?_ ?_ ?_
            · exact fun U => ⟨hbw.drew, KeepI.below (Below.refl _ _).drew, Nat.le_refl _, oR.drew, oA.drew, oB.drew, (fun h => by cases h), (fun h => by cases h), (fun h => by cases h), (fun h => by cases h), (fun h => by cases h), (fun h => by cases h), (fun h => by cases h), (fun h => by cases h), (fun h => by cases h), (fun h => by cases h), (fun h => by cases h), (fun h => by cases h)⟩
            · refine StepsU.run rfl ?_ ?_
              · intro L U wr hF hlk haf A K hA hK
                have HA : Hid (A = putAll _ _ U) := hA
                clear hA
                simp [Aft, Region.binds] at haf
                obtain ⟨fb, fk, fs, oR, oA, oB, f0, f1, f2, f3, f4, f5, f6, f7, f8, f9, f10, f11⟩ := hF
                have e7 : A.tmps[7]? = some (.pointer (some ⟨w2.heap.size, 0, none⟩)) := by rw [HA.out]; kernel_rfl
                obtain ⟨c0, c1, -, -⟩ := oB.two
                refine ⟨?_⟩
                go_simp
                refine hK (upd U 55 (.agg #[.bool xB, .slice aB nB cB])) _ _ ?_ ?_
                · rw [HA.out]; kernel_rfl
                · exact ⟨fb, fk, fs, oR, oA, oB, (fun _ => rfl), f1, f2, f3, f4, f5, f6, f7, f8, f9, f10, f11⟩
              refine StepsU.run rfl ?_ ?_
              · intro L U wr hF hlk haf A K hA hK
                have HA : Hid (A = putAll _ _ U) := hA
                clear hA
                simp [Aft, Region.binds] at haf
                obtain ⟨fb, fk, fs, oR, oA, oB, f0, f1, f2, f3, f4, f5, f6, f7, f8, f9, f10, f11⟩ := hF
                refine ⟨?_⟩
                go_simp
                refine (one_any _).mono ?_
                rintro e w1 ⟨u1, u2, u3, u4, rfl, hr, hb⟩
                go_simp
                refine hK (upd U 56 (.agg #[.bool u1, .slice u2 u3 u4])) _ _ ?_ ?_
                · rw [HA.out]; kernel_rfl
                · exact ⟨(fb.step hb (Nat.le_refl _)), (fk.trans (KeepI.below hb)), (Nat.le_trans fs hb.size), (oR.stay hb), (oA.stay hb), (oB.stay hb), (mv mo_is (KeepI.below hb) f0), (fun _ => hr), (mv mo_is (KeepI.below hb) f2), (mv mo_is (KeepI.below hb) f3), (mv mo_is (KeepI.below hb) f4), (mv mo_is (KeepI.below hb) f5), (mv mo_is (KeepI.below hb) f6), (mv mo_is (KeepI.below hb) f7), (mv mo_is (KeepI.below hb) f8), (mv mo_is (KeepI.below hb) f9), (mv mo_is (KeepI.below hb) f10), (mv mo_is (KeepI.below hb) f11)⟩
              refine StepsU.run rfl ?_ ?_
              · intro L U wr hF hlk haf A K hA hK
                have HA : Hid (A = putAll _ _ U) := hA
                clear hA
                simp [Aft, Region.binds] at haf
                obtain ⟨fb, fk, fs, oR, oA, oB, f0, f1, f2, f3, f4, f5, f6, f7, f8, f9, f10, f11⟩ := hF
                have g0 := f0 (by simp [haf])
                have e55 := rd HA.out 55 (by kernel_rfl) g0
                have g1 := f1 (by simp [haf])
                have e56 := rd HA.out 56 (by kernel_rfl) rfl
                refine ⟨?_⟩
                go_simp
                refine (rCmp_s _ _ z2 1 (-1) 400 20 _ (hB.keepI fk) g1 (by decide) (by decide) HR.out).mono ?_
                rintro e w1 ⟨rfl, hb⟩
                go_simp
                refine hK (upd U 57 (.int .i64 (-1))) _ _ ?_ ?_
                · rw [HA.out]; kernel_rfl
                · exact ⟨(fb.step hb (Nat.le_refl _)), (fk.trans (KeepI.below hb)), (Nat.le_trans fs hb.size), (oR.stay hb), (oA.stay hb), (oB.stay hb), (mv mo_is (KeepI.below hb) f0), (mv mo_rnm (KeepI.below hb) f1), (fun _ => rfl), (mv mo_is (KeepI.below hb) f3), (mv mo_is (KeepI.below hb) f4), (mv mo_is (KeepI.below hb) f5), (mv mo_is (KeepI.below hb) f6), (mv mo_is (KeepI.below hb) f7), (mv mo_is (KeepI.below hb) f8), (mv mo_is (KeepI.below hb) f9), (mv mo_is (KeepI.below hb) f10), (mv mo_is (KeepI.below hb) f11)⟩
              refine StepsU.run rfl ?_ ?_
              · intro L U wr hF hlk haf A K hA hK
                have HA : Hid (A = putAll _ _ U) := hA
                clear hA
                simp [Aft, Region.binds] at haf
                obtain ⟨fb, fk, fs, oR, oA, oB, f0, f1, f2, f3, f4, f5, f6, f7, f8, f9, f10, f11⟩ := hF
                have g2 := f2 (by simp [haf])
                have e57 := rd HA.out 57 (by kernel_rfl) g2
                refine ⟨?_⟩
                go_simp
                refine hK (upd U 58 (.bool true)) _ _ ?_ ?_
                · rw [HA.out]; kernel_rfl
                · exact ⟨fb, fk, fs, oR, oA, oB, f0, f1, f2, (fun _ => rfl), f4, f5, f6, f7, f8, f9, f10, f11⟩
              refine StepsU.run rfl ?_ ?_
              · intro L U wr hF hlk haf A K hA hK
                have HA : Hid (A = putAll _ _ U) := hA
                clear hA
                simp [Aft, Region.binds] at haf
                obtain ⟨fb, fk, fs, oR, oA, oB, f0, f1, f2, f3, f4, f5, f6, f7, f8, f9, f10, f11⟩ := hF
                have g3 := f3 (by simp [haf])
                have e58 := rd HA.out 58 (by kernel_rfl) rfl
                refine ⟨?_⟩
                go_simp
                refine hK (upd U 59 (U 58)) _ _ ?_ ?_
                · rw [HA.out]; kernel_rfl
                · exact ⟨fb, fk, fs, oR, oA, oB, f0, f1, f2, f3, (fun _ => g3), f5, f6, f7, f8, f9, f10, f11⟩
              refine StepsU.cond ?_ ?_
              · intro L U wr hF hlk haf A K hA hK
                have HA : Hid (A = putAll _ _ U) := hA
                clear hA
                simp [Aft, Region.binds] at haf
                obtain ⟨fb, fk, fs, oR, oA, oB, f0, f1, f2, f3, f4, f5, f6, f7, f8, f9, f10, f11⟩ := hF
                have gg := f4 (by simp [haf])
                have ee := rd HA.out 59 (by kernel_rfl) gg
                refine ⟨?_⟩
                rw [if_neg (by simp [Region.wanted, yielded, ee])]
                refine hK (upd U 60 undef) _ _ ?_ ?_
                · rw [HA.out]; kernel_rfl
                · exact ⟨fb, fk, fs, oR, oA, oB, f0, f1, f2, f3, f4, (fun _ => rfl), f6, f7, f8, f9, f10, f11⟩
              refine StepsU.cond ?_ ?_
              · intro L U wr hF hlk haf A K hA hK
                have HA : Hid (A = putAll _ _ U) := hA
                clear hA
                simp [Aft, Region.binds] at haf
                obtain ⟨fb, fk, fs, oR, oA, oB, f0, f1, f2, f3, f4, f5, f6, f7, f8, f9, f10, f11⟩ := hF
                have gg := f4 (by simp [haf])
                have ee := rd HA.out 59 (by kernel_rfl) gg
                refine ⟨?_⟩
                rw [if_neg (by simp [Region.wanted, yielded, ee])]
                refine hK (upd U 61 undef) _ _ ?_ ?_
                · rw [HA.out]; kernel_rfl
                · exact ⟨fb, fk, fs, oR, oA, oB, f0, f1, f2, f3, f4, f5, (fun _ => rfl), f7, f8, f9, f10, f11⟩
              refine StepsU.cond ?_ ?_
              · intro L U wr hF hlk haf A K hA hK
                have HA : Hid (A = putAll _ _ U) := hA
                clear hA
                simp [Aft, Region.binds] at haf
                obtain ⟨fb, fk, fs, oR, oA, oB, f0, f1, f2, f3, f4, f5, f6, f7, f8, f9, f10, f11⟩ := hF
                have gg := f4 (by simp [haf])
                have ee := rd HA.out 59 (by kernel_rfl) gg
                refine ⟨?_⟩
                rw [if_neg (by simp [Region.wanted, yielded, ee])]
                refine hK (upd U 62 undef) _ _ ?_ ?_
                · rw [HA.out]; kernel_rfl
                · exact ⟨fb, fk, fs, oR, oA, oB, f0, f1, f2, f3, f4, f5, f6, (fun _ => rfl), f8, f9, f10, f11⟩
              refine StepsU.cond ?_ ?_
              · intro L U wr hF hlk haf A K hA hK
                have HA : Hid (A = putAll _ _ U) := hA
                clear hA
                simp [Aft, Region.binds] at haf
                obtain ⟨fb, fk, fs, oR, oA, oB, f0, f1, f2, f3, f4, f5, f6, f7, f8, f9, f10, f11⟩ := hF
                have gg := f4 (by simp [haf])
                have ee := rd HA.out 59 (by kernel_rfl) gg
                refine ⟨?_⟩
                rw [if_neg (by simp [Region.wanted, yielded, ee])]
                refine hK (upd U 63 undef) _ _ ?_ ?_
                · rw [HA.out]; kernel_rfl
                · exact ⟨fb, fk, fs, oR, oA, oB, f0, f1, f2, f3, f4, f5, f6, f7, (fun _ => rfl), f9, f10, f11⟩
              refine StepsU.cond ?_ ?_
              · intro L U wr hF hlk haf A K hA hK
                have HA : Hid (A = putAll _ _ U) := hA
                clear hA
                simp [Aft, Region.binds] at haf
                obtain ⟨fb, fk, fs, oR, oA, oB, f0, f1, f2, f3, f4, f5, f6, f7, f8, f9, f10, f11⟩ := hF
                have gg := f4 (by simp [haf])
                have ee := rd HA.out 59 (by kernel_rfl) gg
                refine ⟨?_⟩
                rw [if_neg (by simp [Region.wanted, yielded, ee])]
                refine hK (upd U 64 undef) _ _ ?_ ?_
                · rw [HA.out]; kernel_rfl
                · exact ⟨fb, fk, fs, oR, oA, oB, f0, f1, f2, f3, f4, f5, f6, f7, f8, (fun _ => rfl), f10, f11⟩
              refine StepsU.cond ?_ ?_
              · intro L U wr hF hlk haf A K hA hK
                have HA : Hid (A = putAll _ _ U) := hA
                clear hA
                simp [Aft, Region.binds] at haf
                obtain ⟨fb, fk, fs, oR, oA, oB, f0, f1, f2, f3, f4, f5, f6, f7, f8, f9, f10, f11⟩ := hF
                have gg := f4 (by simp [haf])
                have ee := rd HA.out 59 (by kernel_rfl) gg
                refine ⟨?_⟩
                rw [if_neg (by simp [Region.wanted, yielded, ee])]
                refine hK (upd U 65 undef) _ _ ?_ ?_
                · rw [HA.out]; kernel_rfl
                · exact ⟨fb, fk, fs, oR, oA, oB, f0, f1, f2, f3, f4, f5, f6, f7, f8, f9, (fun _ => rfl), f11⟩
              refine StepsU.run rfl ?_ StepsU.nil
              · intro L U wr hF hlk haf A K hA hK
                have HA : Hid (A = putAll _ _ U) := hA
                clear hA
                simp [Aft, Region.binds] at haf
                obtain ⟨fb, fk, fs, oR, oA, oB, f0, f1, f2, f3, f4, f5, f6, f7, f8, f9, f10, f11⟩ := hF
                have g4 := f4 (by simp [haf])
                have g10 := f10 (by simp [haf])
                have e59 := rd HA.out 59 (by kernel_rfl) g4
                have e65 := rd HA.out 65 (by kernel_rfl) g10
                refine ⟨?_⟩
                go_simp
                refine hK (upd U 66 (.bool true)) _ _ ?_ ?_
                · rw [HA.out]; kernel_rfl
                · exact ⟨fb, fk, fs, oR, oA, oB, f0, f1, f2, f3, f4, f5, f6, f7, f8, f9, f10, (fun _ => rfl)⟩
            intro L U3 V3 hall hF
            have hbw0 := hbw
            clear hbw
            obtain ⟨hbw, fk, fs, oR, oA, oB, f0, f1, f2, f3, f4, f5, f6, f7, f8, f9, f10, f11⟩ := hF
            have g0 := f0 (hall 0 (by decide))
            have g1 := f1 (hall 1 (by decide))
            have g2 := f2 (hall 2 (by decide))
            have g3 := f3 (hall 3 (by decide))
            have g4 := f4 (hall 4 (by decide))
            have g5 := f5 (hall 5 (by decide))
            have g6 := f6 (hall 6 (by decide))
            have g7 := f7 (hall 7 (by decide))
            have g8 := f8 (hall 8 (by decide))
            have g9 := f9 (hall 9 (by decide))
            have g10 := f10 (hall 10 (by decide))
            have g11 := f11 (hall 11 (by decide))
            clear hall f0 f1 f2 f3 f4 f5 f6 f7 f8 f9 f10 f11
            replace hA := hA.keepI fk
            replace hB := hB.keepI fk
            replace ltR := Nat.lt_of_lt_of_le ltR fs
            replace ltA := Nat.lt_of_lt_of_le ltA fs
            replace ltB := Nat.lt_of_lt_of_le ltB fs
            clear g0
            clear g1
            clear g2
            clear g3
            clear g4
            clear g5
            clear g6
            clear g7
            clear g8
            clear g9
            clear g10
            clear hbw0
            simp only [setM_some, setM_none, setM_nil]
            clear fk fs
            have eT : U3 66 = _ := g11
            clear g11
            rw [eT]
            clear eT
            obtain ⟨Rc0, Rc1, Rc2, Rc3⟩ := oR.four
            obtain ⟨Rq0, Rq1, Rq2, Rq3⟩ := oR.frozen4
            go_wp2
            refine bodyPost_ret (v := (.tuple #[.agg #[.bool false, .slice none 0 0, .bool false, .slice none 0 0], .int .i64 10])) (by simp [results, Try.results30, go_sem, Rc0, Rc1, Rc2, Rc3]) rfl ?_
            refine ⟨_, _, _, _, _, _, _, _, _, 0, rfl, QRP.zero, Or.inr ⟨i, HS.out, _, _, _, _, HP1.out, HP2.out, Or.inr (Or.inr (Or.inl ⟨rfl, rfl, HB.out, rfl, rfl⟩))⟩, ?_⟩
            first | exact hbw | exact below_store4 hbw (by omega) _ _ _ _
          · have HB : Hid (z2 ≤ 1 ∨ Int.gcd z1 z2 ≠ 1) := Or.inl (by omega)
            have HR : Hid ((z2 - 1).sign = 0) := by show _ = _; rw [hz2]; rfl
            clear hz2
            go_wp2
            generalize (w2.alloc (.cells #[.bool xB, .slice aB nB cB] 30 (0, 0))) = W2 at hbw oR oA oB ltR ltA ltB hA hB ⊢
            refine wp_region_M (by kernel_rfl) [55, 56, 57, 58, 59, 60, 61, 62, 63, 64, 65, 66] [none, none, none, none, none, none, none, none, none, none, none, none, none, none, none, none, none, none, none, none, none, none, none, none, none, none, none, none, none, none, none, none, none, none, none, none, none, none, none, none, none, none, none, none, none, none, none, none, none, none, none, none, none, none, none, some 55, some 56, some 57, some 58, some 59, some 60, some 61, some 62, some 63, some 64, some 65, some 66] (fun U => by kernel_rfl) (fun L U wr => Below w.heap.size w wr ∧ KeepI W2 wr ∧ W2.heap.size ≤ wr.heap.size ∧ Blk 32 wr (w.heap.size) #[.bool false, .slice none 0 0, .bool false, .slice none 0 0] ∧ Blk 30 wr (w1.heap.size) #[.bool xA, .slice aA nA cA] ∧ Blk 30 wr (w2.heap.size) #[.bool xB, .slice aB nB cB] ∧ (L 0 = true → IS (.agg #[.bool xB, .slice aB nB cB]) (U 55) wr) ∧ (L 1 = true → RNM 1 20 (U 56) wr) ∧ (L 2 = true → IS (.int .i64 0) (U 57) wr) ∧ (L 3 = true → IS (.bool true) (U 58) wr) ∧ (L 4 = true → IS (.bool true) (U 59) wr) ∧ (L 5 = true → IS undef (U 60) wr) ∧ (L 6 = true → IS undef (U 61) wr) ∧ (L 7 = true → IS undef (U 62) wr) ∧ (L 8 = true → IS undef (U 63) wr) ∧ (L 9 = true → IS undef (U 64) wr) ∧ (L 10 = true → IS undef (U 65) wr) ∧ (L 11 = true → IS (.bool true) (U 66) wr)) (by kernel_rfl) ?_ ?_ ?_
            · exact fun U => ⟨hbw.drew, KeepI.below (Below.refl _ _).drew, Nat.le_refl _, oR.drew, oA.drew, oB.drew, (fun h => by cases h), (fun h => by cases h), (fun h => by cases h), (fun h => by cases h), (fun h => by cases h), (fun h => by cases h), (fun h => by cases h), (fun h => by cases h), (fun h => by cases h), (fun h => by cases h), (fun h => by cases h), (fun h => by cases h)⟩
            · refine StepsU.run rfl ?_ ?_
              · intro L U wr hF hlk haf A K hA hK
                have HA : Hid (A = putAll _ _ U) := hA
                clear hA
                simp [Aft, Region.binds] at haf
                obtain ⟨fb, fk, fs, oR, oA, oB, f0, f1, f2, f3, f4, f5, f6, f7, f8, f9, f10, f11⟩ := hF
                have e7 : A.tmps[7]? = some (.pointer (some ⟨w2.heap.size, 0, none⟩)) := by rw [HA.out]; kernel_rfl
                obtain ⟨c0, c1, -, -⟩ := oB.two
                refine ⟨?_⟩
                go_simp
                refine hK (upd U 55 (.agg #[.bool xB, .slice aB nB cB])) _ _ ?_ ?_
                · rw [HA.out]; kernel_rfl
                · exact ⟨fb, fk, fs, oR, oA, oB, (fun _ => rfl), f1, f2, f3, f4, f5, f6, f7, f8, f9, f10, f11⟩
              refine StepsU.run rfl ?_ ?_
              · intro L U wr hF hlk haf A K hA hK
                have HA : Hid (A = putAll _ _ U) := hA
                clear hA
                simp [Aft, Region.binds] at haf
                obtain ⟨fb, fk, fs, oR, oA, oB, f0, f1, f2, f3, f4, f5, f6, f7, f8, f9, f10, f11⟩ := hF
                refine ⟨?_⟩
                go_simp
                refine (one_any _).mono ?_
                rintro e w1 ⟨u1, u2, u3, u4, rfl, hr, hb⟩
                go_simp
                refine hK (upd U 56 (.agg #[.bool u1, .slice u2 u3 u4])) _ _ ?_ ?_
                · rw [HA.out]; kernel_rfl
                · exact ⟨(fb.step hb (Nat.le_refl _)), (fk.trans (KeepI.below hb)), (Nat.le_trans fs hb.size), (oR.stay hb), (oA.stay hb), (oB.stay hb), (mv mo_is (KeepI.below hb) f0), (fun _ => hr), (mv mo_is (KeepI.below hb) f2), (mv mo_is (KeepI.below hb) f3), (mv mo_is (KeepI.below hb) f4), (mv mo_is (KeepI.below hb) f5), (mv mo_is (KeepI.below hb) f6), (mv mo_is (KeepI.below hb) f7), (mv mo_is (KeepI.below hb) f8), (mv mo_is (KeepI.below hb) f9), (mv mo_is (KeepI.below hb) f10), (mv mo_is (KeepI.below hb) f11)⟩
              refine StepsU.run rfl ?_ ?_
              · intro L U wr hF hlk haf A K hA hK
                have HA : Hid (A = putAll _ _ U) := hA
                clear hA
                simp [Aft, Region.binds] at haf
                obtain ⟨fb, fk, fs, oR, oA, oB, f0, f1, f2, f3, f4, f5, f6, f7, f8, f9, f10, f11⟩ := hF
                have g0 := f0 (by simp [haf])
                have e55 := rd HA.out 55 (by kernel_rfl) g0
                have g1 := f1 (by simp [haf])
                have e56 := rd HA.out 56 (by kernel_rfl) rfl
                refine ⟨?_⟩
                go_simp
                refine (rCmp_s _ _ z2 1 0 400 20 _ (hB.keepI fk) g1 (by decide) (by decide) HR.out).mono ?_
                rintro e w1 ⟨rfl, hb⟩
                go_simp
                refine hK (upd U 57 (.int .i64 0)) _ _ ?_ ?_
                · rw [HA.out]; kernel_rfl
                · exact ⟨(fb.step hb (Nat.le_refl _)), (fk.trans (KeepI.below hb)), (Nat.le_trans fs hb.size), (oR.stay hb), (oA.stay hb), (oB.stay hb), (mv mo_is (KeepI.below hb) f0), (mv mo_rnm (KeepI.below hb) f1), (fun _ => rfl), (mv mo_is (KeepI.below hb) f3), (mv mo_is (KeepI.below hb) f4), (mv mo_is (KeepI.below hb) f5), (mv mo_is (KeepI.below hb) f6), (mv mo_is (KeepI.below hb) f7), (mv mo_is (KeepI.below hb) f8), (mv mo_is (KeepI.below hb) f9), (mv mo_is (KeepI.below hb) f10), (mv mo_is (KeepI.below hb) f11)⟩
              refine StepsU.run rfl ?_ ?_
              · intro L U wr hF hlk haf A K hA hK
                have HA : Hid (A = putAll _ _ U) := hA
                clear hA
                simp [Aft, Region.binds] at haf
                obtain ⟨fb, fk, fs, oR, oA, oB, f0, f1, f2, f3, f4, f5, f6, f7, f8, f9, f10, f11⟩ := hF
                have g2 := f2 (by simp [haf])
                have e57 := rd HA.out 57 (by kernel_rfl) g2
                refine ⟨?_⟩
                go_simp
                refine hK (upd U 58 (.bool true)) _ _ ?_ ?_
                · rw [HA.out]; kernel_rfl
                · exact ⟨fb, fk, fs, oR, oA, oB, f0, f1, f2, (fun _ => rfl), f4, f5, f6, f7, f8, f9, f10, f11⟩
              refine StepsU.run rfl ?_ ?_
              · intro L U wr hF hlk haf A K hA hK
                have HA : Hid (A = putAll _ _ U) := hA
                clear hA
                simp [Aft, Region.binds] at haf
                obtain ⟨fb, fk, fs, oR, oA, oB, f0, f1, f2, f3, f4, f5, f6, f7, f8, f9, f10, f11⟩ := hF
                have g3 := f3 (by simp [haf])
                have e58 := rd HA.out 58 (by kernel_rfl) rfl
                refine ⟨?_⟩
                go_simp
                refine hK (upd U 59 (U 58)) _ _ ?_ ?_
                · rw [HA.out]; kernel_rfl
                · exact ⟨fb, fk, fs, oR, oA, oB, f0, f1, f2, f3, (fun _ => g3), f5, f6, f7, f8, f9, f10, f11⟩
              refine StepsU.cond ?_ ?_
              · intro L U wr hF hlk haf A K hA hK
                have HA : Hid (A = putAll _ _ U) := hA
                clear hA
                simp [Aft, Region.binds] at haf
                obtain ⟨fb, fk, fs, oR, oA, oB, f0, f1, f2, f3, f4, f5, f6, f7, f8, f9, f10, f11⟩ := hF
                have gg := f4 (by simp [haf])
                have ee := rd HA.out 59 (by kernel_rfl) gg
                refine ⟨?_⟩
                rw [if_neg (by simp [Region.wanted, yielded, ee])]
                refine hK (upd U 60 undef) _ _ ?_ ?_
                · rw [HA.out]; kernel_rfl
                · exact ⟨fb, fk, fs, oR, oA, oB, f0, f1, f2, f3, f4, (fun _ => rfl), f6, f7, f8, f9, f10, f11⟩
              refine StepsU.cond ?_ ?_
              · intro L U wr hF hlk haf A K hA hK
                have HA : Hid (A = putAll _ _ U) := hA
                clear hA
                simp [Aft, Region.binds] at haf
                obtain ⟨fb, fk, fs, oR, oA, oB, f0, f1, f2, f3, f4, f5, f6, f7, f8, f9, f10, f11⟩ := hF
                have gg := f4 (by simp [haf])
                have ee := rd HA.out 59 (by kernel_rfl) gg
                refine ⟨?_⟩
                rw [if_neg (by simp [Region.wanted, yielded, ee])]
                refine hK (upd U 61 undef) _ _ ?_ ?_
                · rw [HA.out]; kernel_rfl
                · exact ⟨fb, fk, fs, oR, oA, oB, f0, f1, f2, f3, f4, f5, (fun _ => rfl), f7, f8, f9, f10, f11⟩
              refine StepsU.cond ?_ ?_
              · intro L U wr hF hlk haf A K hA hK
                have HA : Hid (A = putAll _ _ U) := hA
                clear hA
                simp [Aft, Region.binds] at haf
                obtain ⟨fb, fk, fs, oR, oA, oB, f0, f1, f2, f3, f4, f5, f6, f7, f8, f9, f10, f11⟩ := hF
                have gg := f4 (by simp [haf])
                have ee := rd HA.out 59 (by kernel_rfl) gg
                refine ⟨?_⟩
                rw [if_neg (by simp [Region.wanted, yielded, ee])]
                refine hK (upd U 62 undef) _ _ ?_ ?_
                · rw [HA.out]; kernel_rfl
                · exact ⟨fb, fk, fs, oR, oA, oB, f0, f1, f2, f3, f4, f5, f6, (fun _ => rfl), f8, f9, f10, f11⟩
              refine StepsU.cond ?_ ?_
              · intro L U wr hF hlk haf A K hA hK
                have HA : Hid (A = putAll _ _ U) := hA
                clear hA
                simp [Aft, Region.binds] at haf
                obtain ⟨fb, fk, fs, oR, oA, oB, f0, f1, f2, f3, f4, f5, f6, f7, f8, f9, f10, f11⟩ := hF
                have gg := f4 (by simp [haf])
                have ee := rd HA.out 59 (by kernel_rfl) gg
                refine ⟨?_⟩
                rw [if_neg (by simp [Region.wanted, yielded, ee])]
                refine hK (upd U 63 undef) _ _ ?_ ?_
                · rw [HA.out]; kernel_rfl
                · exact ⟨fb, fk, fs, oR, oA, oB, f0, f1, f2, f3, f4, f5, f6, f7, (fun _ => rfl), f9, f10, f11⟩
              refine StepsU.cond ?_ ?_
              · intro L U wr hF hlk haf A K hA hK
                have HA : Hid (A = putAll _ _ U) := hA
                clear hA
                simp [Aft, Region.binds] at haf
                obtain ⟨fb, fk, fs, oR, oA, oB, f0, f1, f2, f3, f4, f5, f6, f7, f8, f9, f10, f11⟩ := hF
                have gg := f4 (by simp [haf])
                have ee := rd HA.out 59 (by kernel_rfl) gg
                refine ⟨?_⟩
                rw [if_neg (by simp [Region.wanted, yielded, ee])]
                refine hK (upd U 64 undef) _ _ ?_ ?_
                · rw [HA.out]; kernel_rfl
                · exact ⟨fb, fk, fs, oR, oA, oB, f0, f1, f2, f3, f4, f5, f6, f7, f8, (fun _ => rfl), f10, f11⟩
              refine StepsU.cond ?_ ?_
              · intro L U wr hF hlk haf A K hA hK
                have HA : Hid (A = putAll _ _ U) := hA
                clear hA
                simp [Aft, Region.binds] at haf
                obtain ⟨fb, fk, fs, oR, oA, oB, f0, f1, f2, f3, f4, f5, f6, f7, f8, f9, f10, f11⟩ := hF
                have gg := f4 (by simp [haf])
                have ee := rd HA.out 59 (by kernel_rfl) gg
                refine ⟨?_⟩
                rw [if_neg (by simp [Region.wanted, yielded, ee])]
                refine hK (upd U 65 undef) _ _ ?_ ?_
                · rw [HA.out]; kernel_rfl
                · exact ⟨fb, fk, fs, oR, oA, oB, f0, f1, f2, f3, f4, f5, f6, f7, f8, f9, (fun _ => rfl), f11⟩
              refine StepsU.run rfl ?_ StepsU.nil
              · intro L U wr hF hlk haf A K hA hK
                have HA : Hid (A = putAll _ _ U) := hA
                clear hA
                simp [Aft, Region.binds] at haf
                obtain ⟨fb, fk, fs, oR, oA, oB, f0, f1, f2, f3, f4, f5, f6, f7, f8, f9, f10, f11⟩ := hF
                have g4 := f4 (by simp [haf])
                have g10 := f10 (by simp [haf])
                have e59 := rd HA.out 59 (by kernel_rfl) g4
                have e65 := rd HA.out 65 (by kernel_rfl) g10
                refine ⟨?_⟩
                go_simp
                refine hK (upd U 66 (.bool true)) _ _ ?_ ?_
                · rw [HA.out]; kernel_rfl
                · exact ⟨fb, fk, fs, oR, oA, oB, f0, f1, f2, f3, f4, f5, f6, f7, f8, f9, f10, (fun _ => rfl)⟩
            intro L U3 V3 hall hF
            have hbw0 := hbw
            clear hbw
            obtain ⟨hbw, fk, fs, oR, oA, oB, f0, f1, f2, f3, f4, f5, f6, f7, f8, f9, f10, f11⟩ := hF
            have g0 := f0 (hall 0 (by decide))
            have g1 := f1 (hall 1 (by decide))
            have g2 := f2 (hall 2 (by decide))
            have g3 := f3 (hall 3 (by decide))
            have g4 := f4 (hall 4 (by decide))
            have g5 := f5 (hall 5 (by decide))
            have g6 := f6 (hall 6 (by decide))
            have g7 := f7 (hall 7 (by decide))
            have g8 := f8 (hall 8 (by decide))
            have g9 := f9 (hall 9 (by decide))
            have g10 := f10 (hall 10 (by decide))
            have g11 := f11 (hall 11 (by decide))
            clear hall f0 f1 f2 f3 f4 f5 f6 f7 f8 f9 f10 f11
            replace hA := hA.keepI fk
            replace hB := hB.keepI fk
            replace ltR := Nat.lt_of_lt_of_le ltR fs
            replace ltA := Nat.lt_of_lt_of_le ltA fs
            replace ltB := Nat.lt_of_lt_of_le ltB fs
            clear g0
            clear g1
            clear g2
            clear g3
            clear g4
            clear g5
            clear g6
            clear g7
            clear g8
            clear g9
            clear g10
            clear hbw0
            simp only [setM_some, setM_none, setM_nil]
            clear fk fs
            have eT : U3 66 = _ := g11
            clear g11
            rw [eT]
            clear eT
            obtain ⟨Rc0, Rc1, Rc2, Rc3⟩ := oR.four
            obtain ⟨Rq0, Rq1, Rq2, Rq3⟩ := oR.frozen4
            go_wp2
            refine bodyPost_ret (v := (.tuple #[.agg #[.bool false, .slice none 0 0, .bool false, .slice none 0 0], .int .i64 10])) (by simp [results, Try.results30, go_sem, Rc0, Rc1, Rc2, Rc3]) rfl ?_
            refine ⟨_, _, _, _, _, _, _, _, _, 0, rfl, QRP.zero, Or.inr ⟨i, HS.out, _, _, _, _, HP1.out, HP2.out, Or.inr (Or.inr (Or.inl ⟨rfl, rfl, HB.out, rfl, rfl⟩))⟩, ?_⟩
            first | exact hbw | exact below_store4 hbw (by omega) _ _ _ _
          · have H1 : Hid (1 < z2) := hz2
            have HR : Hid ((z2 - 1).sign = 1) := Int.sign_eq_one_of_pos (by omega)
            clear hz2
            by_cases hg : Int.gcd z1 z2 = 1
            · have H2 : Hid (Int.gcd z1 z2 = 1) := hg
              have HG : Hid ((((Int.gcd z1 z2 : Nat) : Int) - 1).sign = 0) := by show _ = _; rw [hg]; rfl
              clear hg
              go_wp2
              generalize (w2.alloc (.cells #[.bool xB, .slice aB nB cB] 30 (0, 0))) = W2 at hbw oR oA oB ltR ltA ltB hA hB ⊢
              refine wp_region_M (by kernel_rfl) [55, 56, 57, 58, 59, 60, 61, 62, 63, 64, 65, 66] [none, none, none, none, none, none, none, none, none, none, none, none, none, none, none, none, none, none, none, none, none, none, none, none, none, none, none, none, none, none, none, none, none, none, none, none, none, none, none, none, none, none, none, none, none, none, none, none, none, none, none, none, none, none, none, some 55, some 56, some 57, some 58, some 59, some 60, some 61, some 62, some 63, some 64, some 65, some 66] (fun U => by kernel_rfl) (fun L U wr => Below w.heap.size w wr ∧ KeepI W2 wr ∧ W2.heap.size ≤ wr.heap.size ∧ Blk 32 wr (w.heap.size) #[.bool false, .slice none 0 0, .bool false, .slice none 0 0] ∧ Blk 30 wr (w1.heap.size) #[.bool xA, .slice aA nA cA] ∧ Blk 30 wr (w2.heap.size) #[.bool xB, .slice aB nB cB] ∧ (L 0 = true → IS (.agg #[.bool xB, .slice aB nB cB]) (U 55) wr) ∧ (L 1 = true → RNM 1 20 (U 56) wr) ∧ (L 2 = true → IS (.int .i64 1) (U 57) wr) ∧ (L 3 = true → IS (.bool false) (U 58) wr) ∧ (L 4 = true → IS (.bool false) (U 59) wr) ∧ (L 5 = true → IS (.agg #[.bool xA, .slice aA nA cA]) (U 60) wr) ∧ (L 6 = true → IS (.agg #[.bool xB, .slice aB nB cB]) (U 61) wr) ∧ (L 7 = true → RNM ((Int.gcd z1 z2 : Nat) : Int) 400 (U 62) wr) ∧ (L 8 = true → RNM 1 20 (U 63) wr) ∧ (L 9 = true → IS (.int .i64 0) (U 64) wr) ∧ (L 10 = true → IS (.bool false) (U 65) wr) ∧ (L 11 = true → IS (.bool false) (U 66) wr)) (by kernel_rfl) ?_ ?_ ?_
              · exact fun U => ⟨hbw.drew, KeepI.below (Below.refl _ _).drew, Nat.le_refl _, oR.drew, oA.drew, oB.drew, (fun h => by cases h), (fun h => by cases h), (fun h => by cases h), (fun h => by cases h), (fun h => by cases h), (fun h => by cases h), (fun h => by cases h), (fun h => by cases h), (fun h => by cases h), (fun h => by cases h), (fun h => by cases h), (fun h => by cases h)⟩
              · refine StepsU.run rfl ?_ ?_
                · intro L U wr hF hlk haf A K hA hK
                  have HA : Hid (A = putAll _ _ U) := hA
                  clear hA
                  simp [Aft, Region.binds] at haf
                  obtain ⟨fb, fk, fs, oR, oA, oB, f0, f1, f2, f3, f4, f5, f6, f7, f8, f9, f10, f11⟩ := hF
                  have e7 : A.tmps[7]? = some (.pointer (some ⟨w2.heap.size, 0, none⟩)) := by rw [HA.out]; kernel_rfl
                  obtain ⟨c0, c1, -, -⟩ := oB.two
                  refine ⟨?_⟩
                  go_simp
                  refine hK (upd U 55 (.agg #[.bool xB, .slice aB nB cB])) _ _ ?_ ?_
                  · rw [HA.out]; kernel_rfl
                  · exact ⟨fb, fk, fs, oR, oA, oB, (fun _ => rfl), f1, f2, f3, f4, f5, f6, f7, f8, f9, f10, f11⟩
                refine StepsU.run rfl ?_ ?_
                · intro L U wr hF hlk haf A K hA hK
                  have HA : Hid (A = putAll _ _ U) := hA
                  clear hA
                  simp [Aft, Region.binds] at haf
                  obtain ⟨fb, fk, fs, oR, oA, oB, f0, f1, f2, f3, f4, f5, f6, f7, f8, f9, f10, f11⟩ := hF
                  refine ⟨?_⟩
                  go_simp
                  refine (one_any _).mono ?_
                  rintro e w1 ⟨u1, u2, u3, u4, rfl, hr, hb⟩
                  go_simp
                  refine hK (upd U 56 (.agg #[.bool u1, .slice u2 u3 u4])) _ _ ?_ ?_
                  · rw [HA.out]; kernel_rfl
                  · exact ⟨(fb.step hb (Nat.le_refl _)), (fk.trans (KeepI.below hb)), (Nat.le_trans fs hb.size), (oR.stay hb), (oA.stay hb), (oB.stay hb), (mv mo_is (KeepI.below hb) f0), (fun _ => hr), (mv mo_is (KeepI.below hb) f2), (mv mo_is (KeepI.below hb) f3), (mv mo_is (KeepI.below hb) f4), (mv mo_is (KeepI.below hb) f5), (mv mo_is (KeepI.below hb) f6), (mv mo_rnm (KeepI.below hb) f7), (mv mo_rnm (KeepI.below hb) f8), (mv mo_is (KeepI.below hb) f9), (mv mo_is (KeepI.below hb) f10), (mv mo_is (KeepI.below hb) f11)⟩
                refine StepsU.run rfl ?_ ?_
                · intro L U wr hF hlk haf A K hA hK
                  have HA : Hid (A = putAll _ _ U) := hA
                  clear hA
                  simp [Aft, Region.binds] at haf
                  obtain ⟨fb, fk, fs, oR, oA, oB, f0, f1, f2, f3, f4, f5, f6, f7, f8, f9, f10, f11⟩ := hF
                  have g0 := f0 (by simp [haf])
                  have e55 := rd HA.out 55 (by kernel_rfl) g0
                  have g1 := f1 (by simp [haf])
                  have e56 := rd HA.out 56 (by kernel_rfl) rfl
                  refine ⟨?_⟩
                  go_simp
                  refine (rCmp_s _ _ z2 1 1 400 20 _ (hB.keepI fk) g1 (by decide) (by decide) HR.out).mono ?_
                  rintro e w1 ⟨rfl, hb⟩
                  go_simp
                  refine hK (upd U 57 (.int .i64 1)) _ _ ?_ ?_
                  · rw [HA.out]; kernel_rfl
                  · exact ⟨(fb.step hb (Nat.le_refl _)), (fk.trans (KeepI.below hb)), (Nat.le_trans fs hb.size), (oR.stay hb), (oA.stay hb), (oB.stay hb), (mv mo_is (KeepI.below hb) f0), (mv mo_rnm (KeepI.below hb) f1), (fun _ => rfl), (mv mo_is (KeepI.below hb) f3), (mv mo_is (KeepI.below hb) f4), (mv mo_is (KeepI.below hb) f5), (mv mo_is (KeepI.below hb) f6), (mv mo_rnm (KeepI.below hb) f7), (mv mo_rnm (KeepI.below hb) f8), (mv mo_is (KeepI.below hb) f9), (mv mo_is (KeepI.below hb) f10), (mv mo_is (KeepI.below hb) f11)⟩
                refine StepsU.run rfl ?_ ?_
                · intro L U wr hF hlk haf A K hA hK
                  have HA : Hid (A = putAll _ _ U) := hA
                  clear hA
                  simp [Aft, Region.binds] at haf
                  obtain ⟨fb, fk, fs, oR, oA, oB, f0, f1, f2, f3, f4, f5, f6, f7, f8, f9, f10, f11⟩ := hF
                  have g2 := f2 (by simp [haf])
                  have e57 := rd HA.out 57 (by kernel_rfl) g2
                  refine ⟨?_⟩
                  go_simp
                  refine hK (upd U 58 (.bool false)) _ _ ?_ ?_
                  · rw [HA.out]; kernel_rfl
                  · exact ⟨fb, fk, fs, oR, oA, oB, f0, f1, f2, (fun _ => rfl), f4, f5, f6, f7, f8, f9, f10, f11⟩
                refine StepsU.run rfl ?_ ?_
                · intro L U wr hF hlk haf A K hA hK
                  have HA : Hid (A = putAll _ _ U) := hA
                  clear hA
                  simp [Aft, Region.binds] at haf
                  obtain ⟨fb, fk, fs, oR, oA, oB, f0, f1, f2, f3, f4, f5, f6, f7, f8, f9, f10, f11⟩ := hF
                  have g3 := f3 (by simp [haf])
                  have e58 := rd HA.out 58 (by kernel_rfl) rfl
                  refine ⟨?_⟩
                  go_simp
                  refine hK (upd U 59 (U 58)) _ _ ?_ ?_
                  · rw [HA.out]; kernel_rfl
                  · exact ⟨fb, fk, fs, oR, oA, oB, f0, f1, f2, f3, (fun _ => g3), f5, f6, f7, f8, f9, f10, f11⟩
                refine StepsU.cond ?_ ?_
                · intro L U wr hF hlk haf A K hA hK
                  have HA : Hid (A = putAll _ _ U) := hA
                  clear hA
                  simp [Aft, Region.binds] at haf
                  obtain ⟨fb, fk, fs, oR, oA, oB, f0, f1, f2, f3, f4, f5, f6, f7, f8, f9, f10, f11⟩ := hF
                  have gg := f4 (by simp [haf])
                  have ee := rd HA.out 59 (by kernel_rfl) gg
                  refine ⟨?_⟩
                  rw [if_pos (by simp [Region.wanted, yielded, ee])]
                  refine Gate.out ?_
                  clear gg ee
                  have e5 : A.tmps[5]? = some (.pointer (some ⟨w1.heap.size, 0, none⟩)) := by rw [HA.out]; kernel_rfl
                  obtain ⟨c0, c1, -, -⟩ := oA.two
                  refine ⟨?_⟩
                  go_simp
                  refine hK (upd U 60 (.agg #[.bool xA, .slice aA nA cA])) _ _ ?_ ?_
                  · rw [HA.out]; kernel_rfl
                  · exact ⟨fb, fk, fs, oR, oA, oB, f0, f1, f2, f3, f4, (fun _ => rfl), f6, f7, f8, f9, f10, f11⟩
                refine StepsU.cond ?_ ?_
                · intro L U wr hF hlk haf A K hA hK
                  have HA : Hid (A = putAll _ _ U) := hA
                  clear hA
                  simp [Aft, Region.binds] at haf
                  obtain ⟨fb, fk, fs, oR, oA, oB, f0, f1, f2, f3, f4, f5, f6, f7, f8, f9, f10, f11⟩ := hF
                  have gg := f4 (by simp [haf])
                  have ee := rd HA.out 59 (by kernel_rfl) gg
                  refine ⟨?_⟩
                  rw [if_pos (by simp [Region.wanted, yielded, ee])]
                  refine Gate.out ?_
                  clear gg ee
                  have e7 : A.tmps[7]? = some (.pointer (some ⟨w2.heap.size, 0, none⟩)) := by rw [HA.out]; kernel_rfl
                  obtain ⟨c0, c1, -, -⟩ := oB.two
                  refine ⟨?_⟩
                  go_simp
                  refine hK (upd U 61 (.agg #[.bool xB, .slice aB nB cB])) _ _ ?_ ?_
                  · rw [HA.out]; kernel_rfl
                  · exact ⟨fb, fk, fs, oR, oA, oB, f0, f1, f2, f3, f4, f5, (fun _ => rfl), f7, f8, f9, f10, f11⟩
                refine StepsU.cond ?_ ?_
                · intro L U wr hF hlk haf A K hA hK
                  have HA : Hid (A = putAll _ _ U) := hA
                  clear hA
                  simp [Aft, Region.binds] at haf
                  obtain ⟨fb, fk, fs, oR, oA, oB, f0, f1, f2, f3, f4, f5, f6, f7, f8, f9, f10, f11⟩ := hF
                  have gg := f4 (by simp [haf])
                  have ee := rd HA.out 59 (by kernel_rfl) gg
                  refine ⟨?_⟩
                  rw [if_pos (by simp [Region.wanted, yielded, ee])]
                  refine Gate.out ?_
                  clear gg ee
                  have g5 := f5 (by simp [haf])
                  have e60 := rd HA.out 60 (by kernel_rfl) g5
                  have g6 := f6 (by simp [haf])
                  have e61 := rd HA.out 61 (by kernel_rfl) g6
                  refine ⟨?_⟩
                  go_simp
                  refine (rGcd_L _ _ z1 z2 _ 400 _ (hA.keepI fk) (hB.keepI fk) (by decide) rfl).mono ?_
                  rintro e w1 ⟨u1, u2, u3, u4, rfl, hr, hb⟩
                  go_simp
                  refine hK (upd U 62 (.agg #[.bool u1, .slice u2 u3 u4])) _ _ ?_ ?_
                  · rw [HA.out]; kernel_rfl
                  · exact ⟨(fb.step hb (Nat.le_refl _)), (fk.trans (KeepI.below hb)), (Nat.le_trans fs hb.size), (oR.stay hb), (oA.stay hb), (oB.stay hb), (mv mo_is (KeepI.below hb) f0), (mv mo_rnm (KeepI.below hb) f1), (mv mo_is (KeepI.below hb) f2), (mv mo_is (KeepI.below hb) f3), (mv mo_is (KeepI.below hb) f4), (mv mo_is (KeepI.below hb) f5), (mv mo_is (KeepI.below hb) f6), (fun _ => hr), (mv mo_rnm (KeepI.below hb) f8), (mv mo_is (KeepI.below hb) f9), (mv mo_is (KeepI.below hb) f10), (mv mo_is (KeepI.below hb) f11)⟩
                refine StepsU.cond ?_ ?_
                · intro L U wr hF hlk haf A K hA hK
                  have HA : Hid (A = putAll _ _ U) := hA
                  clear hA
                  simp [Aft, Region.binds] at haf
                  obtain ⟨fb, fk, fs, oR, oA, oB, f0, f1, f2, f3, f4, f5, f6, f7, f8, f9, f10, f11⟩ := hF
                  have gg := f4 (by simp [haf])
                  have ee := rd HA.out 59 (by kernel_rfl) gg
                  refine ⟨?_⟩
                  rw [if_pos (by simp [Region.wanted, yielded, ee])]
                  refine Gate.out ?_
                  clear gg ee
                  refine ⟨?_⟩
                  go_simp
                  refine (one_any _).mono ?_
                  rintro e w1 ⟨u1, u2, u3, u4, rfl, hr, hb⟩
                  go_simp
                  refine hK (upd U 63 (.agg #[.bool u1, .slice u2 u3 u4])) _ _ ?_ ?_
                  · rw [HA.out]; kernel_rfl
                  · exact ⟨(fb.step hb (Nat.le_refl _)), (fk.trans (KeepI.below hb)), (Nat.le_trans fs hb.size), (oR.stay hb), (oA.stay hb), (oB.stay hb), (mv mo_is (KeepI.below hb) f0), (mv mo_rnm (KeepI.below hb) f1), (mv mo_is (KeepI.below hb) f2), (mv mo_is (KeepI.below hb) f3), (mv mo_is (KeepI.below hb) f4), (mv mo_is (KeepI.below hb) f5), (mv mo_is (KeepI.below hb) f6), (mv mo_rnm (KeepI.below hb) f7), (fun _ => hr), (mv mo_is (KeepI.below hb) f9), (mv mo_is (KeepI.below hb) f10), (mv mo_is (KeepI.below hb) f11)⟩
                refine StepsU.cond ?_ ?_
                · intro L U wr hF hlk haf A K hA hK
                  have HA : Hid (A = putAll _ _ U) := hA
                  clear hA
                  simp [Aft, Region.binds] at haf
                  obtain ⟨fb, fk, fs, oR, oA, oB, f0, f1, f2, f3, f4, f5, f6, f7, f8, f9, f10, f11⟩ := hF
                  have gg := f4 (by simp [haf])
                  have ee := rd HA.out 59 (by kernel_rfl) gg
                  refine ⟨?_⟩
                  rw [if_pos (by simp [Region.wanted, yielded, ee])]
                  refine Gate.out ?_
                  clear gg ee
                  have g7 := f7 (by simp [haf])
                  have e62 := rd HA.out 62 (by kernel_rfl) rfl
                  have g8 := f8 (by simp [haf])
                  have e63 := rd HA.out 63 (by kernel_rfl) rfl
                  refine ⟨?_⟩
                  go_simp
                  refine (rCmp_s _ _ _ 1 0 400 20 _ g7 g8 (by decide) (by decide) HG.out).mono ?_
                  rintro e w1 ⟨rfl, hb⟩
                  go_simp
                  refine hK (upd U 64 (.int .i64 0)) _ _ ?_ ?_
                  · rw [HA.out]; kernel_rfl
                  · exact ⟨(fb.step hb (Nat.le_refl _)), (fk.trans (KeepI.below hb)), (Nat.le_trans fs hb.size), (oR.stay hb), (oA.stay hb), (oB.stay hb), (mv mo_is (KeepI.below hb) f0), (mv mo_rnm (KeepI.below hb) f1), (mv mo_is (KeepI.below hb) f2), (mv mo_is (KeepI.below hb) f3), (mv mo_is (KeepI.below hb) f4), (mv mo_is (KeepI.below hb) f5), (mv mo_is (KeepI.below hb) f6), (mv mo_rnm (KeepI.below hb) f7), (mv mo_rnm (KeepI.below hb) f8), (fun _ => rfl), (mv mo_is (KeepI.below hb) f10), (mv mo_is (KeepI.below hb) f11)⟩
                refine StepsU.cond ?_ ?_
                · intro L U wr hF hlk haf A K hA hK
                  have HA : Hid (A = putAll _ _ U) := hA
                  clear hA
                  simp [Aft, Region.binds] at haf
                  obtain ⟨fb, fk, fs, oR, oA, oB, f0, f1, f2, f3, f4, f5, f6, f7, f8, f9, f10, f11⟩ := hF
                  have gg := f4 (by simp [haf])
                  have ee := rd HA.out 59 (by kernel_rfl) gg
                  refine ⟨?_⟩
                  rw [if_pos (by simp [Region.wanted, yielded, ee])]
                  refine Gate.out ?_
                  clear gg ee
                  have g9 := f9 (by simp [haf])
                  have e64 := rd HA.out 64 (by kernel_rfl) g9
                  refine ⟨?_⟩
                  go_simp
                  refine hK (upd U 65 (.bool false)) _ _ ?_ ?_
                  · rw [HA.out]; kernel_rfl
                  · exact ⟨fb, fk, fs, oR, oA, oB, f0, f1, f2, f3, f4, f5, f6, f7, f8, f9, (fun _ => rfl), f11⟩
                refine StepsU.run rfl ?_ StepsU.nil
                · intro L U wr hF hlk haf A K hA hK
                  have HA : Hid (A = putAll _ _ U) := hA
                  clear hA
                  simp [Aft, Region.binds] at haf
                  obtain ⟨fb, fk, fs, oR, oA, oB, f0, f1, f2, f3, f4, f5, f6, f7, f8, f9, f10, f11⟩ := hF
                  have g4 := f4 (by simp [haf])
                  have g10 := f10 (by simp [haf])
                  have e59 := rd HA.out 59 (by kernel_rfl) g4
                  have e65 := rd HA.out 65 (by kernel_rfl) g10
                  refine ⟨?_⟩
                  go_simp
                  refine hK (upd U 66 (.bool false)) _ _ ?_ ?_
                  · rw [HA.out]; kernel_rfl
                  · exact ⟨fb, fk, fs, oR, oA, oB, f0, f1, f2, f3, f4, f5, f6, f7, f8, f9, f10, (fun _ => rfl)⟩
              intro L U3 V3 hall hF
              have hbw0 := hbw
              clear hbw
              obtain ⟨hbw, fk, fs, oR, oA, oB, f0, f1, f2, f3, f4, f5, f6, f7, f8, f9, f10, f11⟩ := hF
              have g0 := f0 (hall 0 (by decide))
              have g1 := f1 (hall 1 (by decide))
              have g2 := f2 (hall 2 (by decide))
              have g3 := f3 (hall 3 (by decide))
              have g4 := f4 (hall 4 (by decide))
              have g5 := f5 (hall 5 (by decide))
              have g6 := f6 (hall 6 (by decide))
              have g7 := f7 (hall 7 (by decide))
              have g8 := f8 (hall 8 (by decide))
              have g9 := f9 (hall 9 (by decide))
              have g10 := f10 (hall 10 (by decide))
              have g11 := f11 (hall 11 (by decide))
              clear hall f0 f1 f2 f3 f4 f5 f6 f7 f8 f9 f10 f11
              replace hA := hA.keepI fk
              replace hB := hB.keepI fk
              replace ltR := Nat.lt_of_lt_of_le ltR fs
              replace ltA := Nat.lt_of_lt_of_le ltA fs
              replace ltB := Nat.lt_of_lt_of_le ltB fs
              clear g0
              clear g1
              clear g2
              clear g3
              clear g4
              clear g5
              clear g6
              clear g7
              clear g8
              clear g9
              clear g10
              clear hbw0
              simp only [setM_some, setM_none, setM_nil]
              clear fk fs
              have eT : U3 66 = _ := g11
              clear g11
              rw [eT]
              clear eT
              obtain ⟨q, HQ⟩ : ∃ q : Rat, Hid (q.num = z1 ∧ (q.den : Int) = z2) := ⟨Rat.divInt z1 z2, by
                  have h := divInt_parts (a := z1) (b := z2) (by have := H1.out; omega)
                  rw [H2.out] at h
                  show _ ∧ _
                  simpa using h⟩
              obtain ⟨Ac0, Ac1, Aq0, Aq1⟩ := oA.two
              obtain ⟨Bc0, Bc1, Bq0, Bq1⟩ := oB.two
              obtain ⟨Rc0, Rc1, Rc2, Rc3⟩ := oR.four
              obtain ⟨Rq0, Rq1, Rq2, Rq3⟩ := oR.frozen4
              go_wp2
              refine bodyPost_ret (v := (.tuple #[.agg #[.bool xA, .slice aA nA cA, .bool xB, .slice aB nB cB], .int .i64 0])) (by simp [results, Try.results30, go_sem, Rc0, Rc1, Rc2, Rc3]) rfl ?_
              refine ⟨_, _, _, _, _, _, _, _, _, q, rfl, QRP.keepI (w := V3) ⟨by rw [HQ.out.1]; exact hA, z2, hB, Or.inl HQ.out.2.symm⟩ (keepI_four (noI_slice _ _ _) (noI_slice _ _ _) oR _ _ _ _ _ _ _ _), Or.inr ⟨i, HS.out, _, _, _, _, HP1.out, HP2.out, Or.inr (Or.inr (Or.inr ⟨rfl, rfl, H1.out, H2.out, rfl, HQ.out.1, HQ.out.2⟩))⟩, below_store4 hbw (by omega) _ _ _ _⟩
            · have HB : Hid (z2 ≤ 1 ∨ Int.gcd z1 z2 ≠ 1) := Or.inr hg
              have HG : Hid ((((Int.gcd z1 z2 : Nat) : Int) - 1).sign = 1) := Int.sign_eq_one_of_pos (by
                  have := gcdz_pos (a := z1) (b := z2) (by have := H1.out; omega)
                  omega)
              clear hg
              go_wp2
              generalize (w2.alloc (.cells #[.bool xB, .slice aB nB cB] 30 (0, 0))) = W2 at hbw oR oA oB ltR ltA ltB hA hB ⊢
              refine wp_region_M (by kernel_rfl) [55, 56, 57, 58, 59, 60, 61, 62, 63, 64, 65, 66] [none, none, none, none, none, none, none, none, none, none, none, none, none, none, none, none, none, none, none, none, none, none, none, none, none, none, none, none, none, none, none, none, none, none, none, none, none, none, none, none, none, none, none, none, none, none, none, none, none, none, none, none, none, none, none, some 55, some 56, some 57, some 58, some 59, some 60, some 61, some 62, some 63, some 64, some 65, some 66] (fun U => by kernel_rfl) (fun L U wr => Below w.heap.size w wr ∧ KeepI W2 wr ∧ W2.heap.size ≤ wr.heap.size ∧ Blk 32 wr (w.heap.size) #[.bool false, .slice none 0 0, .bool false, .slice none 0 0] ∧ Blk 30 wr (w1.heap.size) #[.bool xA, .slice aA nA cA] ∧ Blk 30 wr (w2.heap.size) #[.bool xB, .slice aB nB cB] ∧ (L 0 = true → IS (.agg #[.bool xB, .slice aB nB cB]) (U 55) wr) ∧ (L 1 = true → RNM 1 20 (U 56) wr) ∧ (L 2 = true → IS (.int .i64 1) (U 57) wr) ∧ (L 3 = true → IS (.bool false) (U 58) wr) ∧ (L 4 = true → IS (.bool false) (U 59) wr) ∧ (L 5 = true → IS (.agg #[.bool xA, .slice aA nA cA]) (U 60) wr) ∧ (L 6 = true → IS (.agg #[.bool xB, .slice aB nB cB]) (U 61) wr) ∧ (L 7 = true → RNM ((Int.gcd z1 z2 : Nat) : Int) 400 (U 62) wr) ∧ (L 8 = true → RNM 1 20 (U 63) wr) ∧ (L 9 = true → IS (.int .i64 1) (U 64) wr) ∧ (L 10 = true → IS (.bool true) (U 65) wr) ∧ (L 11 = true → IS (.bool true) (U 66) wr)) (by kernel_rfl) ?_ ?_ ?_
              · exact fun U => ⟨hbw.drew, KeepI.below (Below.refl _ _).drew, Nat.le_refl _, oR.drew, oA.drew, oB.drew, (fun h => by cases h), (fun h => by cases h), (fun h => by cases h), (fun h => by cases h), (fun h => by cases h), (fun h => by cases h), (fun h => by cases h), (fun h => by cases h), (fun h => by cases h), (fun h => by cases h), (fun h => by cases h), (fun h => by cases h)⟩
              · refine StepsU.run rfl ?_ ?_
                · intro L U wr hF hlk haf A K hA hK
                  have HA : Hid (A = putAll _ _ U) := hA
                  clear hA
                  simp [Aft, Region.binds] at haf
                  obtain ⟨fb, fk, fs, oR, oA, oB, f0, f1, f2, f3, f4, f5, f6, f7, f8, f9, f10, f11⟩ := hF
                  have e7 : A.tmps[7]? = some (.pointer (some ⟨w2.heap.size, 0, none⟩)) := by rw [HA.out]; kernel_rfl
                  obtain ⟨c0, c1, -, -⟩ := oB.two
                  refine ⟨?_⟩
                  go_simp
                  refine hK (upd U 55 (.agg #[.bool xB, .slice aB nB cB])) _ _ ?_ ?_
                  · rw [HA.out]; kernel_rfl
                  · exact ⟨fb, fk, fs, oR, oA, oB, (fun _ => rfl), f1, f2, f3, f4, f5, f6, f7, f8, f9, f10, f11⟩
                refine StepsU.run rfl ?_ ?_
                · intro L U wr hF hlk haf A K hA hK
                  have HA : Hid (A = putAll _ _ U) := hA
                  clear hA
                  simp [Aft, Region.binds] at haf
                  obtain ⟨fb, fk, fs, oR, oA, oB, f0, f1, f2, f3, f4, f5, f6, f7, f8, f9, f10, f11⟩ := hF
                  refine ⟨?_⟩
                  go_simp
                  refine (one_any _).mono ?_
                  rintro e w1 ⟨u1, u2, u3, u4, rfl, hr, hb⟩
                  go_simp
                  refine hK (upd U 56 (.agg #[.bool u1, .slice u2 u3 u4])) _ _ ?_ ?_
                  · rw [HA.out]; kernel_rfl
                  · exact ⟨(fb.step hb (Nat.le_refl _)), (fk.trans (KeepI.below hb)), (Nat.le_trans fs hb.size), (oR.stay hb), (oA.stay hb), (oB.stay hb), (mv mo_is (KeepI.below hb) f0), (fun _ => hr), (mv mo_is (KeepI.below hb) f2), (mv mo_is (KeepI.below hb) f3), (mv mo_is (KeepI.below hb) f4), (mv mo_is (KeepI.below hb) f5), (mv mo_is (KeepI.below hb) f6), (mv mo_rnm (KeepI.below hb) f7), (mv mo_rnm (KeepI.below hb) f8), (mv mo_is (KeepI.below hb) f9), (mv mo_is (KeepI.below hb) f10), (mv mo_is (KeepI.below hb) f11)⟩
                refine StepsU.run rfl ?_ ?_
                · intro L U wr hF hlk haf A K hA hK
                  have HA : Hid (A = putAll _ _ U) := hA
                  clear hA
                  simp [Aft, Region.binds] at haf
                  obtain ⟨fb, fk, fs, oR, oA, oB, f0, f1, f2, f3, f4, f5, f6, f7, f8, f9, f10, f11⟩ := hF
                  have g0 := f0 (by simp [haf])
                  have e55 := rd HA.out 55 (by kernel_rfl) g0
                  have g1 := f1 (by simp [haf])
                  have e56 := rd HA.out 56 (by kernel_rfl) rfl
                  refine ⟨?_⟩
                  go_simp
                  refine (rCmp_s _ _ z2 1 1 400 20 _ (hB.keepI fk) g1 (by decide) (by decide) HR.out).mono ?_
                  rintro e w1 ⟨rfl, hb⟩
                  go_simp
                  refine hK (upd U 57 (.int .i64 1)) _ _ ?_ ?_
                  · rw [HA.out]; kernel_rfl
                  · exact ⟨(fb.step hb (Nat.le_refl _)), (fk.trans (KeepI.below hb)), (Nat.le_trans fs hb.size), (oR.stay hb), (oA.stay hb), (oB.stay hb), (mv mo_is (KeepI.below hb) f0), (mv mo_rnm (KeepI.below hb) f1), (fun _ => rfl), (mv mo_is (KeepI.below hb) f3), (mv mo_is (KeepI.below hb) f4), (mv mo_is (KeepI.below hb) f5), (mv mo_is (KeepI.below hb) f6), (mv mo_rnm (KeepI.below hb) f7), (mv mo_rnm (KeepI.below hb) f8), (mv mo_is (KeepI.below hb) f9), (mv mo_is (KeepI.below hb) f10), (mv mo_is (KeepI.below hb) f11)⟩
                refine StepsU.run rfl ?_ ?_
                · intro L U wr hF hlk haf A K hA hK
                  have HA : Hid (A = putAll _ _ U) := hA
                  clear hA
                  simp [Aft, Region.binds] at haf
                  obtain ⟨fb, fk, fs, oR, oA, oB, f0, f1, f2, f3, f4, f5, f6, f7, f8, f9, f10, f11⟩ := hF
                  have g2 := f2 (by simp [haf])
                  have e57 := rd HA.out 57 (by kernel_rfl) g2
                  refine ⟨?_⟩
                  go_simp
                  refine hK (upd U 58 (.bool false)) _ _ ?_ ?_
                  · rw [HA.out]; kernel_rfl
                  · exact ⟨fb, fk, fs, oR, oA, oB, f0, f1, f2, (fun _ => rfl), f4, f5, f6, f7, f8, f9, f10, f11⟩
                refine StepsU.run rfl ?_ ?_
                · intro L U wr hF hlk haf A K hA hK
                  have HA : Hid (A = putAll _ _ U) := hA
                  clear hA
                  simp [Aft, Region.binds] at haf
                  obtain ⟨fb, fk, fs, oR, oA, oB, f0, f1, f2, f3, f4, f5, f6, f7, f8, f9, f10, f11⟩ := hF
                  have g3 := f3 (by simp [haf])
                  have e58 := rd HA.out 58 (by kernel_rfl) rfl
                  refine ⟨?_⟩
                  go_simp
                  refine hK (upd U 59 (U 58)) _ _ ?_ ?_
                  · rw [HA.out]; kernel_rfl
                  · exact ⟨fb, fk, fs, oR, oA, oB, f0, f1, f2, f3, (fun _ => g3), f5, f6, f7, f8, f9, f10, f11⟩
                refine StepsU.cond ?_ ?_
                · intro L U wr hF hlk haf A K hA hK
                  have HA : Hid (A = putAll _ _ U) := hA
                  clear hA
                  simp [Aft, Region.binds] at haf
                  obtain ⟨fb, fk, fs, oR, oA, oB, f0, f1, f2, f3, f4, f5, f6, f7, f8, f9, f10, f11⟩ := hF
                  have gg := f4 (by simp [haf])
                  have ee := rd HA.out 59 (by kernel_rfl) gg
                  refine ⟨?_⟩
                  rw [if_pos (by simp [Region.wanted, yielded, ee])]
                  refine Gate.out ?_
                  clear gg ee
                  have e5 : A.tmps[5]? = some (.pointer (some ⟨w1.heap.size, 0, none⟩)) := by rw [HA.out]; kernel_rfl
                  obtain ⟨c0, c1, -, -⟩ := oA.two
                  refine ⟨?_⟩
                  go_simp
                  refine hK (upd U 60 (.agg #[.bool xA, .slice aA nA cA])) _ _ ?_ ?_
                  · rw [HA.out]; kernel_rfl
                  · exact ⟨fb, fk, fs, oR, oA, oB, f0, f1, f2, f3, f4, (fun _ => rfl), f6, f7, f8, f9, f10, f11⟩
                refine StepsU.cond ?_ ?_
                · intro L U wr hF hlk haf A K hA hK
                  have HA : Hid (A = putAll _ _ U) := hA
                  clear hA
                  simp [Aft, Region.binds] at haf
                  obtain ⟨fb, fk, fs, oR, oA, oB, f0, f1, f2, f3, f4, f5, f6, f7, f8, f9, f10, f11⟩ := hF
                  have gg := f4 (by simp [haf])
                  have ee := rd HA.out 59 (by kernel_rfl) gg
                  refine ⟨?_⟩
                  rw [if_pos (by simp [Region.wanted, yielded, ee])]
                  refine Gate.out ?_
                  clear gg ee
                  have e7 : A.tmps[7]? = some (.pointer (some ⟨w2.heap.size, 0, none⟩)) := by rw [HA.out]; kernel_rfl
                  obtain ⟨c0, c1, -, -⟩ := oB.two
                  refine ⟨?_⟩
                  go_simp
                  refine hK (upd U 61 (.agg #[.bool xB, .slice aB nB cB])) _ _ ?_ ?_
                  · rw [HA.out]; kernel_rfl
                  · exact ⟨fb, fk, fs, oR, oA, oB, f0, f1, f2, f3, f4, f5, (fun _ => rfl), f7, f8, f9, f10, f11⟩
                refine StepsU.cond ?_ ?_
                · intro L U wr hF hlk haf A K hA hK
                  have HA : Hid (A = putAll _ _ U) := hA
                  clear hA
                  simp [Aft, Region.binds] at haf
                  obtain ⟨fb, fk, fs, oR, oA, oB, f0, f1, f2, f3, f4, f5, f6, f7, f8, f9, f10, f11⟩ := hF
                  have gg := f4 (by simp [haf])
                  have ee := rd HA.out 59 (by kernel_rfl) gg
                  refine ⟨?_⟩
                  rw [if_pos (by simp [Region.wanted, yielded, ee])]
                  refine Gate.out ?_
                  clear gg ee
                  have g5 := f5 (by simp [haf])
                  have e60 := rd HA.out 60 (by kernel_rfl) g5
                  have g6 := f6 (by simp [haf])
                  have e61 := rd HA.out 61 (by kernel_rfl) g6
                  refine ⟨?_⟩
                  go_simp
                  refine (rGcd_L _ _ z1 z2 _ 400 _ (hA.keepI fk) (hB.keepI fk) (by decide) rfl).mono ?_
                  rintro e w1 ⟨u1, u2, u3, u4, rfl, hr, hb⟩
                  go_simp
                  refine hK (upd U 62 (.agg #[.bool u1, .slice u2 u3 u4])) _ _ ?_ ?_
                  · rw [HA.out]; kernel_rfl
                  · exact ⟨(fb.step hb (Nat.le_refl _)), (fk.trans (KeepI.below hb)), (Nat.le_trans fs hb.size), (oR.stay hb), (oA.stay hb), (oB.stay hb), (mv mo_is (KeepI.below hb) f0), (mv mo_rnm (KeepI.below hb) f1), (mv mo_is (KeepI.below hb) f2), (mv mo_is (KeepI.below hb) f3), (mv mo_is (KeepI.below hb) f4), (mv mo_is (KeepI.below hb) f5), (mv mo_is (KeepI.below hb) f6), (fun _ => hr), (mv mo_rnm (KeepI.below hb) f8), (mv mo_is (KeepI.below hb) f9), (mv mo_is (KeepI.below hb) f10), (mv mo_is (KeepI.below hb) f11)⟩
                refine StepsU.cond ?_ ?_
                · intro L U wr hF hlk haf A K hA hK
                  have HA : Hid (A = putAll _ _ U) := hA
                  clear hA
                  simp [Aft, Region.binds] at haf
                  obtain ⟨fb, fk, fs, oR, oA, oB, f0, f1, f2, f3, f4, f5, f6, f7, f8, f9, f10, f11⟩ := hF
                  have gg := f4 (by simp [haf])
                  have ee := rd HA.out 59 (by kernel_rfl) gg
                  refine ⟨?_⟩
                  rw [if_pos (by simp [Region.wanted, yielded, ee])]
                  refine Gate.out ?_
                  clear gg ee
                  refine ⟨?_⟩
                  go_simp
                  refine (one_any _).mono ?_
                  rintro e w1 ⟨u1, u2, u3, u4, rfl, hr, hb⟩
                  go_simp
                  refine hK (upd U 63 (.agg #[.bool u1, .slice u2 u3 u4])) _ _ ?_ ?_
                  · rw [HA.out]; kernel_rfl
                  · exact ⟨(fb.step hb (Nat.le_refl _)), (fk.trans (KeepI.below hb)), (Nat.le_trans fs hb.size), (oR.stay hb), (oA.stay hb), (oB.stay hb), (mv mo_is (KeepI.below hb) f0), (mv mo_rnm (KeepI.below hb) f1), (mv mo_is (KeepI.below hb) f2), (mv mo_is (KeepI.below hb) f3), (mv mo_is (KeepI.below hb) f4), (mv mo_is (KeepI.below hb) f5), (mv mo_is (KeepI.below hb) f6), (mv mo_rnm (KeepI.below hb) f7), (fun _ => hr), (mv mo_is (KeepI.below hb) f9), (mv mo_is (KeepI.below hb) f10), (mv mo_is (KeepI.below hb) f11)⟩
                refine StepsU.cond ?_ ?_
                · intro L U wr hF hlk haf A K hA hK
                  have HA : Hid (A = putAll _ _ U) := hA
                  clear hA
                  simp [Aft, Region.binds] at haf
                  obtain ⟨fb, fk, fs, oR, oA, oB, f0, f1, f2, f3, f4, f5, f6, f7, f8, f9, f10, f11⟩ := hF
                  have gg := f4 (by simp [haf])
                  have ee := rd HA.out 59 (by kernel_rfl) gg
                  refine ⟨?_⟩
                  rw [if_pos (by simp [Region.wanted, yielded, ee])]
                  refine Gate.out ?_
                  clear gg ee
                  have g7 := f7 (by simp [haf])
                  have e62 := rd HA.out 62 (by kernel_rfl) rfl
                  have g8 := f8 (by simp [haf])
                  have e63 := rd HA.out 63 (by kernel_rfl) rfl
                  refine ⟨?_⟩
                  go_simp
                  refine (rCmp_s _ _ _ 1 1 400 20 _ g7 g8 (by decide) (by decide) HG.out).mono ?_
                  rintro e w1 ⟨rfl, hb⟩
                  go_simp
                  refine hK (upd U 64 (.int .i64 1)) _ _ ?_ ?_
                  · rw [HA.out]; kernel_rfl
                  · exact ⟨(fb.step hb (Nat.le_refl _)), (fk.trans (KeepI.below hb)), (Nat.le_trans fs hb.size), (oR.stay hb), (oA.stay hb), (oB.stay hb), (mv mo_is (KeepI.below hb) f0), (mv mo_rnm (KeepI.below hb) f1), (mv mo_is (KeepI.below hb) f2), (mv mo_is (KeepI.below hb) f3), (mv mo_is (KeepI.below hb) f4), (mv mo_is (KeepI.below hb) f5), (mv mo_is (KeepI.below hb) f6), (mv mo_rnm (KeepI.below hb) f7), (mv mo_rnm (KeepI.below hb) f8), (fun _ => rfl), (mv mo_is (KeepI.below hb) f10), (mv mo_is (KeepI.below hb) f11)⟩
                refine StepsU.cond ?_ ?_
                · intro L U wr hF hlk haf A K hA hK
                  have HA : Hid (A = putAll _ _ U) := hA
                  clear hA
                  simp [Aft, Region.binds] at haf
                  obtain ⟨fb, fk, fs, oR, oA, oB, f0, f1, f2, f3, f4, f5, f6, f7, f8, f9, f10, f11⟩ := hF
                  have gg := f4 (by simp [haf])
                  have ee := rd HA.out 59 (by kernel_rfl) gg
                  refine ⟨?_⟩
                  rw [if_pos (by simp [Region.wanted, yielded, ee])]
                  refine Gate.out ?_
                  clear gg ee
                  have g9 := f9 (by simp [haf])
                  have e64 := rd HA.out 64 (by kernel_rfl) g9
                  refine ⟨?_⟩
                  go_simp
                  refine hK (upd U 65 (.bool true)) _ _ ?_ ?_
                  · rw [HA.out]; kernel_rfl
                  · exact ⟨fb, fk, fs, oR, oA, oB, f0, f1, f2, f3, f4, f5, f6, f7, f8, f9, (fun _ => rfl), f11⟩
                refine StepsU.run rfl ?_ StepsU.nil
                · intro L U wr hF hlk haf A K hA hK
                  have HA : Hid (A = putAll _ _ U) := hA
                  clear hA
                  simp [Aft, Region.binds] at haf
                  obtain ⟨fb, fk, fs, oR, oA, oB, f0, f1, f2, f3, f4, f5, f6, f7, f8, f9, f10, f11⟩ := hF
                  have g4 := f4 (by simp [haf])
                  have g10 := f10 (by simp [haf])
                  have e59 := rd HA.out 59 (by kernel_rfl) g4
                  have e65 := rd HA.out 65 (by kernel_rfl) g10
                  refine ⟨?_⟩
                  go_simp
                  refine hK (upd U 66 (.bool true)) _ _ ?_ ?_
                  · rw [HA.out]; kernel_rfl
                  · exact ⟨fb, fk, fs, oR, oA, oB, f0, f1, f2, f3, f4, f5, f6, f7, f8, f9, f10, (fun _ => rfl)⟩
              intro L U3 V3 hall hF
              have hbw0 := hbw
              clear hbw
              obtain ⟨hbw, fk, fs, oR, oA, oB, f0, f1, f2, f3, f4, f5, f6, f7, f8, f9, f10, f11⟩ := hF
              have g0 := f0 (hall 0 (by decide))
              have g1 := f1 (hall 1 (by decide))
              have g2 := f2 (hall 2 (by decide))
              have g3 := f3 (hall 3 (by decide))
              have g4 := f4 (hall 4 (by decide))
              have g5 := f5 (hall 5 (by decide))
              have g6 := f6 (hall 6 (by decide))
              have g7 := f7 (hall 7 (by decide))
              have g8 := f8 (hall 8 (by decide))
              have g9 := f9 (hall 9 (by decide))
              have g10 := f10 (hall 10 (by decide))
              have g11 := f11 (hall 11 (by decide))
              clear hall f0 f1 f2 f3 f4 f5 f6 f7 f8 f9 f10 f11
              replace hA := hA.keepI fk
              replace hB := hB.keepI fk
              replace ltR := Nat.lt_of_lt_of_le ltR fs
              replace ltA := Nat.lt_of_lt_of_le ltA fs
              replace ltB := Nat.lt_of_lt_of_le ltB fs
              clear g0
              clear g1
              clear g2
              clear g3
              clear g4
              clear g5
              clear g6
              clear g7
              clear g8
              clear g9
              clear g10
              clear hbw0
              simp only [setM_some, setM_none, setM_nil]
              clear fk fs
              have eT : U3 66 = _ := g11
              clear g11
              rw [eT]
              clear eT
              obtain ⟨Rc0, Rc1, Rc2, Rc3⟩ := oR.four
              obtain ⟨Rq0, Rq1, Rq2, Rq3⟩ := oR.frozen4
              go_wp2
              refine bodyPost_ret (v := (.tuple #[.agg #[.bool false, .slice none 0 0, .bool false, .slice none 0 0], .int .i64 10])) (by simp [results, Try.results30, go_sem, Rc0, Rc1, Rc2, Rc3]) rfl ?_
              refine ⟨_, _, _, _, _, _, _, _, _, 0, rfl, QRP.zero, Or.inr ⟨i, HS.out, _, _, _, _, HP1.out, HP2.out, Or.inr (Or.inr (Or.inl ⟨rfl, rfl, HB.out, rfl, rfl⟩))⟩, ?_⟩
              first | exact hbw | exact below_store4 hbw (by omega) _ _ _ _
        · obtain ⟨Rc0, Rc1, Rc2, Rc3⟩ := oR.four
          obtain ⟨Rq0, Rq1, Rq2, Rq3⟩ := oR.frozen4
          go_wp2
          refine bodyPost_ret (v := (.tuple #[.agg #[.bool false, .slice none 0 0, .bool false, .slice none 0 0], .int .i64 11])) (by simp [results, Try.results30, go_sem, Rc0, Rc1, Rc2, Rc3]) rfl ?_
          refine ⟨_, _, _, _, _, _, _, _, _, 0, rfl, QRP.zero, Or.inr ⟨i, HS.out, _, _, _, _, HP1.out, HP2.out, Or.inr (Or.inl ⟨by decide, by decide, rfl, rfl⟩)⟩, ?_⟩
          first | exact hbw | exact below_store4 hbw (by omega) _ _ _ _
      · rcases HP2.out.codes with rfl | rfl | rfl
        · obtain ⟨Rc0, Rc1, Rc2, Rc3⟩ := oR.four
          obtain ⟨Rq0, Rq1, Rq2, Rq3⟩ := oR.frozen4
          go_wp2
          refine bodyPost_ret (v := (.tuple #[.agg #[.bool false, .slice none 0 0, .bool false, .slice none 0 0], .int .i64 10])) (by simp [results, Try.results30, go_sem, Rc0, Rc1, Rc2, Rc3]) rfl ?_
          refine ⟨_, _, _, _, _, _, _, _, _, 0, rfl, QRP.zero, Or.inr ⟨i, HS.out, _, _, _, _, HP1.out, HP2.out, Or.inl ⟨Or.inr rfl, rfl, rfl⟩⟩, ?_⟩
          first | exact hbw | exact below_store4 hbw (by omega) _ _ _ _
        · obtain ⟨Rc0, Rc1, Rc2, Rc3⟩ := oR.four
          obtain ⟨Rq0, Rq1, Rq2, Rq3⟩ := oR.frozen4
          go_wp2
          refine bodyPost_ret (v := (.tuple #[.agg #[.bool false, .slice none 0 0, .bool false, .slice none 0 0], .int .i64 11])) (by simp [results, Try.results30, go_sem, Rc0, Rc1, Rc2, Rc3]) rfl ?_
          refine ⟨_, _, _, _, _, _, _, _, _, 0, rfl, QRP.zero, Or.inr ⟨i, HS.out, _, _, _, _, HP1.out, HP2.out, Or.inr (Or.inl ⟨by decide, by decide, rfl, rfl⟩)⟩, ?_⟩
          first | exact hbw | exact below_store4 hbw (by omega) _ _ _ _
        · obtain ⟨Rc0, Rc1, Rc2, Rc3⟩ := oR.four
          obtain ⟨Rq0, Rq1, Rq2, Rq3⟩ := oR.frozen4
          go_wp2
          refine bodyPost_ret (v := (.tuple #[.agg #[.bool false, .slice none 0 0, .bool false, .slice none 0 0], .int .i64 11])) (by simp [results, Try.results30, go_sem, Rc0, Rc1, Rc2, Rc3]) rfl ?_
          refine ⟨_, _, _, _, _, _, _, _, _, 0, rfl, QRP.zero, Or.inr ⟨i, HS.out, _, _, _, _, HP1.out, HP2.out, Or.inr (Or.inl ⟨by decide, by decide, rfl, rfl⟩)⟩, ?_⟩
          first | exact hbw | exact below_store4 hbw (by omega) _ _ _ _
    · have hx : (((s[i]'hlt).toNat : Int) != 47) = true := by
        rw [bne_iff_ne, bs_get s i hlt]
        have := HS.out.2.2 i (by omega)
        omega
      go_wp2
      go_round
      case rel => exact ⟨i + 1, by omega, by go_num⟩
      case measure => simp [intOf]; omega
theorem rparseq_any (s : ByteArray) (w : World) (hl : s.size ≤ 10000) :
    Calls Try.prog 30 #[.string s] w fun e w' => ∃ s1 s2 s3 s4 s5 s6 s7 s8 co q, e = .returned (.tuple #[.agg #[.bool s1, .slice s2 s3 s4, .bool s5, .slice s6 s7 s8], .int .i64 co]) ∧ QRP w' s1 s2 s3 s4 s5 s6 s7 s8 q 400 ∧ Hid (PQ s co q) ∧ Below w.heap.size w w' := by
  rcases slash_any s with h | ⟨k, h⟩
  · exact rparseq_no s w hl h
  · exact rparseq_yes s k w hl h

end Go.Proofs.Ytidpbdhhbeaijab
