/- Contracts of ratio's Parse and Text; they prove no statement of the seat. -/
import Derived.Test.YtidpbdhhbeaijabJoin14Folds
import Derived.Test.YtidpbdhhbeaijabCutJFolds
namespace Go.Proofs.Ytidpbdhhbeaijab
open Go.RowKit

set_option maxHeartbeats 4000000 in
theorem parseq_no (s : ByteArray) (w : World) (hl : s.size ≤ 10000) (h : NoSl s) :
    Calls Try.prog 29 #[.string s] w fun e w' => ∃ s1 s2 s3 s4 s5 s6 s7 s8 co q, e = .returned (.tuple #[.agg #[.bool s1, .slice s2 s3 s4, .bool s5, .slice s6 s7 s8], .int .i64 co]) ∧ QP w' s1 s2 s3 s4 s5 s6 s7 s8 q ∧ Hid (PQ s co q) ∧ Below w.heap.size w w' := by
  have HS : Hid (NoSl s) := h
  clear h
  have oR := (Blk.new w 27 #[.bool false, .slice none 0 0, .bool false, .slice none 0 0])
  have hbw : Below w.heap.size w (w.alloc (.cells #[.bool false, .slice none 0 0, .bool false, .slice none 0 0] 27 (0, 0))) := by go_grown
  have ltR := oR.lt
  go_enter Try.func29, Try.ntmps29
  go_wp2_with fail
  refine (cutS_no s _ HS.out).mono ?_
  rintro e w1 ⟨rfl, hb⟩
  replace oR := oR.stay hb
  replace ltR := oR.lt
  replace hbw := hbw.step hb (Nat.le_refl _)
  clear hb
  go_wp2_with fail
  refine (parse_z s _ hl).mono ?_
  rintro e w2 ⟨xA, aA, nA, cA, co, z, rfl, hA, HP, hb⟩
  replace oR := oR.stay hb
  replace ltR := oR.lt
  replace hbw := hbw.step hb (Nat.le_refl _)
  clear hb
  have hn := below_new w2 (.cells #[.bool xA, .slice aA nA cA] 25 (0, 0))
  have oA := Blk.new w2 25 #[.bool xA, .slice aA nA cA]
  have neRA : w.heap.size ≠ w2.heap.size := Nat.ne_of_lt ltR
  have lwA : w.heap.size ≤ w2.heap.size := hbw.size
  replace oR := oR.stay hn
  replace ltR := oR.lt
  replace hA := hA.below hn
  replace hbw := hbw.step hn (Nat.le_refl _)
  clear hn
  have ltA := oA.lt
  obtain ⟨Ac0, Ac1, Aq0, Aq1⟩ := oA.two
  go_wp2_with fail
  refine (whole_any _ z _ hA).mono ?_
  rintro e w3 ⟨u1, u2, u3, u4, u5, u6, u7, u8, rfl, hQ, hb⟩
  clear Ac0 Ac1 Aq0 Aq1
  replace oR := oR.stay hb
  replace ltR := oR.lt
  replace oA := oA.stay hb
  replace ltA := oA.lt
  replace hA := hA.below hb
  replace hbw := hbw.step hb (Nat.le_refl _)
  clear hb
  obtain ⟨Rc0, Rc1, Rc2, Rc3⟩ := oR.four
  obtain ⟨Rq0, Rq1, Rq2, Rq3⟩ := oR.frozen4
  go_wp2
  refine bodyPost_ret (v := (.tuple #[.agg #[.bool u1, .slice u2 u3 u4, .bool u5, .slice u6 u7 u8], .int .i64 co])) (by simp [results, Try.results29, go_sem, Rc0, Rc1, Rc2, Rc3]) rfl ?_
  exact ⟨_, _, _, _, _, _, _, _, _, _, rfl, hQ.keepI (keepI_four (noI_slice _ _ _) (noI_slice _ _ _) oR _ _ _ _ _ _ _ _), Or.inl ⟨HS.out, z, HP.out, rfl⟩, below_store4 hbw (by omega) _ _ _ _⟩

theorem graver_ok (w : World) : Calls Try.prog 54 #[.int .i64 0, .int .i64 0] w fun e w' => e = .returned (.int .i64 0) ∧ Below w.heap.size w w' := by
  go_enter Try.func54, Try.ntmps54
  go_wp2
  go_ret
  exact ⟨rfl, Below.refl _ _⟩

theorem sign_np {x : Int} (h : x ≤ 0) : x.sign ≤ 0 := by
  rcases Int.lt_or_eq_of_le h with k | k
  · rw [Int.sign_eq_neg_one_of_neg k]; decide
  · rw [k]; decide
set_option maxRecDepth 20000 in
set_option maxHeartbeats 16000000 in
theorem parseq_yes (s : ByteArray) (k : Nat) (w : World) (hl : s.size ≤ 10000) (h : Sl s k) :
    Calls Try.prog 29 #[.string s] w fun e w' => ∃ s1 s2 s3 s4 s5 s6 s7 s8 co q, e = .returned (.tuple #[.agg #[.bool s1, .slice s2 s3 s4, .bool s5, .slice s6 s7 s8], .int .i64 co]) ∧ QP w' s1 s2 s3 s4 s5 s6 s7 s8 q ∧ Hid (PQ s co q) ∧ Below w.heap.size w w' := by
  have HS : Hid (Sl s k) := h
  clear h
  have oR := (Blk.new w 27 #[.bool false, .slice none 0 0, .bool false, .slice none 0 0])
  have hbw : Below w.heap.size w (w.alloc (.cells #[.bool false, .slice none 0 0, .bool false, .slice none 0 0] 27 (0, 0))) := by go_grown
  have ltR := oR.lt
  go_enter Try.func29, Try.ntmps29
  go_wp2_with fail
  refine (cutS_yes s k _ hl HS.out).mono ?_
  rintro e w1 ⟨rfl, hb⟩
  replace oR := oR.stay hb
  replace ltR := oR.lt
  replace hbw := hbw.step hb (Nat.le_refl _)
  clear hb
  go_wp2_with fail
  refine (parse_z (s.extract 0 k) _ (size_to s k hl)).mono ?_
  rintro e w2 ⟨xA, aA, nA, cA, c1, z1, rfl, hA, HP1, hb⟩
  replace oR := oR.stay hb
  replace ltR := oR.lt
  replace hbw := hbw.step hb (Nat.le_refl _)
  clear hb
  have hn := below_new w2 (.cells #[.bool xA, .slice aA nA cA] 25 (0, 0))
  have oA := Blk.new w2 25 #[.bool xA, .slice aA nA cA]
  have neRA : w.heap.size ≠ w2.heap.size := Nat.ne_of_lt ltR
  have lwA : w.heap.size ≤ w2.heap.size := hbw.size
  replace oR := oR.stay hn
  replace ltR := oR.lt
  replace hA := hA.below hn
  replace hbw := hbw.step hn (Nat.le_refl _)
  clear hn
  have ltA := oA.lt
  go_wp2_with fail
  refine (parse_z (s.extract (k + 1) s.size) _ (size_from s (k + 1) hl)).mono ?_
  rintro e w3 ⟨xB, aB, nB, cB, c2, z2, rfl, hB, HP2, hb⟩
  replace oR := oR.stay hb
  replace ltR := oR.lt
  replace oA := oA.stay hb
  replace ltA := oA.lt
  replace hA := hA.below hb
  replace hbw := hbw.step hb (Nat.le_refl _)
  clear hb
  have hn := below_new w3 (.cells #[.bool xB, .slice aB nB cB] 25 (0, 0))
  have oB := Blk.new w3 25 #[.bool xB, .slice aB nB cB]
  have neRB : w.heap.size ≠ w3.heap.size := Nat.ne_of_lt ltR
  have neAB : w2.heap.size ≠ w3.heap.size := Nat.ne_of_lt ltA
  have lwB : w.heap.size ≤ w3.heap.size := hbw.size
  replace oR := oR.stay hn
  replace ltR := oR.lt
  replace oA := oA.stay hn
  replace ltA := oA.lt
  replace hA := hA.below hn
  replace hB := hB.below hn
  replace hbw := hbw.step hn (Nat.le_refl _)
  clear hn
  have ltB := oB.lt
  rcases HP1.out.codes with rfl | rfl | rfl
  · rcases HP2.out.codes with rfl | rfl | rfl
    · obtain ⟨Rc0, Rc1, Rc2, Rc3⟩ := oR.four
      obtain ⟨Rq0, Rq1, Rq2, Rq3⟩ := oR.frozen4
      go_wp2
      refine bodyPost_ret (v := (.tuple #[.agg #[.bool false, .slice none 0 0, .bool false, .slice none 0 0], .int .i64 10])) (by simp [results, Try.results29, go_sem, Rc0, Rc1, Rc2, Rc3]) rfl ?_
      refine ⟨_, _, _, _, _, _, _, _, _, 0, rfl, QP.zero, Or.inr ⟨k, HS.out, _, _, _, _, HP1.out, HP2.out, Or.inl ⟨Or.inl rfl, rfl, rfl⟩⟩, ?_⟩
      first | exact hbw | exact below_store4 hbw (by omega) _ _ _ _
    · obtain ⟨Rc0, Rc1, Rc2, Rc3⟩ := oR.four
      obtain ⟨Rq0, Rq1, Rq2, Rq3⟩ := oR.frozen4
      go_wp2
      refine bodyPost_ret (v := (.tuple #[.agg #[.bool false, .slice none 0 0, .bool false, .slice none 0 0], .int .i64 10])) (by simp [results, Try.results29, go_sem, Rc0, Rc1, Rc2, Rc3]) rfl ?_
      refine ⟨_, _, _, _, _, _, _, _, _, 0, rfl, QP.zero, Or.inr ⟨k, HS.out, _, _, _, _, HP1.out, HP2.out, Or.inl ⟨Or.inl rfl, rfl, rfl⟩⟩, ?_⟩
      first | exact hbw | exact below_store4 hbw (by omega) _ _ _ _
    · obtain ⟨Rc0, Rc1, Rc2, Rc3⟩ := oR.four
      obtain ⟨Rq0, Rq1, Rq2, Rq3⟩ := oR.frozen4
      go_wp2
      refine bodyPost_ret (v := (.tuple #[.agg #[.bool false, .slice none 0 0, .bool false, .slice none 0 0], .int .i64 10])) (by simp [results, Try.results29, go_sem, Rc0, Rc1, Rc2, Rc3]) rfl ?_
      refine ⟨_, _, _, _, _, _, _, _, _, 0, rfl, QP.zero, Or.inr ⟨k, HS.out, _, _, _, _, HP1.out, HP2.out, Or.inl ⟨Or.inl rfl, rfl, rfl⟩⟩, ?_⟩
      first | exact hbw | exact below_store4 hbw (by omega) _ _ _ _
  · rcases HP2.out.codes with rfl | rfl | rfl
    · obtain ⟨Rc0, Rc1, Rc2, Rc3⟩ := oR.four
      obtain ⟨Rq0, Rq1, Rq2, Rq3⟩ := oR.frozen4
      go_wp2
      refine bodyPost_ret (v := (.tuple #[.agg #[.bool false, .slice none 0 0, .bool false, .slice none 0 0], .int .i64 10])) (by simp [results, Try.results29, go_sem, Rc0, Rc1, Rc2, Rc3]) rfl ?_
      refine ⟨_, _, _, _, _, _, _, _, _, 0, rfl, QP.zero, Or.inr ⟨k, HS.out, _, _, _, _, HP1.out, HP2.out, Or.inl ⟨Or.inr rfl, rfl, rfl⟩⟩, ?_⟩
      first | exact hbw | exact below_store4 hbw (by omega) _ _ _ _
    · go_wp2_with fail
      refine (graver_ok _).mono ?_
      rintro e w4 ⟨rfl, hb⟩
      replace oR := oR.stay hb
      replace ltR := oR.lt
      replace oA := oA.stay hb
      replace ltA := oA.lt
      replace oB := oB.stay hb
      replace ltB := oB.lt
      replace hA := hA.below hb
      replace hB := hB.below hb
      replace hbw := hbw.step hb (Nat.le_refl _)
      clear hb
      rcases Int.lt_or_le 0 z2 with hp | hp
      · have HS2 : Hid (z2.sign = 1) := Int.sign_eq_one_of_pos hp
        have HP : Hid (0 < z2) := hp
        clear hp
        obtain ⟨Bc0, Bc1, Bq0, Bq1⟩ := oB.two
        go_wp2_with fail
        refine (sgn_h _ z2 1 _ hB HS2.out).mono ?_
        rintro e w5 ⟨rfl, hb⟩
        clear Bc0 Bc1 Bq0 Bq1
        replace oR := oR.stay hb
        replace ltR := oR.lt
        replace oA := oA.stay hb
        replace ltA := oA.lt
        replace oB := oB.stay hb
        replace ltB := oB.lt
        replace hA := hA.below hb
        replace hB := hB.below hb
        replace hbw := hbw.step hb (Nat.le_refl _)
        clear hb
        by_cases h1 : z2 = 1
        · have HB : Hid (z2 ≤ 1 ∨ Int.gcd z1 z2 ≠ 1) := Or.inl (by omega)
          have H1 : Hid (z2 = 1) := h1
          clear h1
          obtain ⟨Bc0, Bc1, Bq0, Bq1⟩ := oB.two
          go_wp2_with fail
          refine (isOne_any _ z2 true _ hB HP.out (by rw [H1.out]; rfl)).mono ?_
          rintro e w6 ⟨rfl, hb⟩
          clear Bc0 Bc1 Bq0 Bq1
          replace oR := oR.stay hb
          replace ltR := oR.lt
          replace oA := oA.stay hb
          replace ltA := oA.lt
          replace oB := oB.stay hb
          replace ltB := oB.lt
          replace hA := hA.below hb
          replace hB := hB.below hb
          replace hbw := hbw.step hb (Nat.le_refl _)
          clear hb
          obtain ⟨Rc0, Rc1, Rc2, Rc3⟩ := oR.four
          obtain ⟨Rq0, Rq1, Rq2, Rq3⟩ := oR.frozen4
          go_wp2
          refine bodyPost_ret (v := (.tuple #[.agg #[.bool false, .slice none 0 0, .bool false, .slice none 0 0], .int .i64 10])) (by simp [results, Try.results29, go_sem, Rc0, Rc1, Rc2, Rc3]) rfl ?_
          refine ⟨_, _, _, _, _, _, _, _, _, 0, rfl, QP.zero, Or.inr ⟨k, HS.out, _, _, _, _, HP1.out, HP2.out, Or.inr (Or.inr (Or.inl ⟨rfl, rfl, HB.out, rfl, rfl⟩))⟩, ?_⟩
          first | exact hbw | exact below_store4 hbw (by omega) _ _ _ _
        · have H1 : Hid (1 < z2) := by have := HP.out; show _ < _; omega
          clear h1
          obtain ⟨Bc0, Bc1, Bq0, Bq1⟩ := oB.two
          go_wp2_with fail
          refine (isOne_any _ z2 false _ hB HP.out (by rw [beq_eq_false_iff_ne]; have := H1.out; omega)).mono ?_
          rintro e w6 ⟨rfl, hb⟩
          clear Bc0 Bc1 Bq0 Bq1
          replace oR := oR.stay hb
          replace ltR := oR.lt
          replace oA := oA.stay hb
          replace ltA := oA.lt
          replace oB := oB.stay hb
          replace ltB := oB.lt
          replace hA := hA.below hb
          replace hB := hB.below hb
          replace hbw := hbw.step hb (Nat.le_refl _)
          clear hb
          obtain ⟨Ac0, Ac1, Aq0, Aq1⟩ := oA.two
          obtain ⟨Bc0, Bc1, Bq0, Bq1⟩ := oB.two
          go_wp2_with fail
          refine (gcd_h _ _ z1 z2 _ _ hA hB rfl).mono ?_
          rintro e w7 ⟨xG, aG, nG, cG, rfl, hG, hb⟩
          clear Ac0 Ac1 Aq0 Aq1
          clear Bc0 Bc1 Bq0 Bq1
          replace oR := oR.stay hb
          replace ltR := oR.lt
          replace oA := oA.stay hb
          replace ltA := oA.lt
          replace oB := oB.stay hb
          replace ltB := oB.lt
          replace hA := hA.below hb
          replace hB := hB.below hb
          replace hbw := hbw.step hb (Nat.le_refl _)
          clear hb
          have HG : Hid ((0 : Int) < ((Int.gcd z1 z2 : Nat) : Int)) := gcdz_pos (by have := H1.out; omega)
          by_cases hg : Int.gcd z1 z2 = 1
          · have H2 : Hid (Int.gcd z1 z2 = 1) := hg
            clear hg
            go_wp2_with fail
            refine (isOne_any _ _ true _ hG HG.out (by rw [H2.out]; rfl)).mono ?_
            rintro e w8 ⟨rfl, hb⟩
            replace oR := oR.stay hb
            replace ltR := oR.lt
            replace oA := oA.stay hb
            replace ltA := oA.lt
            replace oB := oB.stay hb
            replace ltB := oB.lt
            replace hA := hA.below hb
            replace hB := hB.below hb
            replace hbw := hbw.step hb (Nat.le_refl _)
            clear hb
            obtain ⟨q, HQ⟩ : ∃ q : Rat, Hid (q.num = z1 ∧ (q.den : Int) = z2) := ⟨Rat.divInt z1 z2, by
                have h := divInt_parts (a := z1) HP.out
                rw [H2.out] at h
                show _ ∧ _
                simpa using h⟩
            obtain ⟨Ac0, Ac1, Aq0, Aq1⟩ := oA.two
            obtain ⟨Bc0, Bc1, Bq0, Bq1⟩ := oB.two
            go_wp2_with fail
            refine (lowest_any _ _ z1 z2 q _ hA hB HQ.out.1 HQ.out.2).mono ?_
            rintro e w9 ⟨u1, u2, u3, u4, u5, u6, u7, u8, rfl, hQ, hb⟩
            clear Ac0 Ac1 Aq0 Aq1
            clear Bc0 Bc1 Bq0 Bq1
            replace oR := oR.stay hb
            replace ltR := oR.lt
            replace oA := oA.stay hb
            replace ltA := oA.lt
            replace oB := oB.stay hb
            replace ltB := oB.lt
            replace hA := hA.below hb
            replace hB := hB.below hb
            replace hbw := hbw.step hb (Nat.le_refl _)
            clear hb
            obtain ⟨Rc0, Rc1, Rc2, Rc3⟩ := oR.four
            obtain ⟨Rq0, Rq1, Rq2, Rq3⟩ := oR.frozen4
            go_wp2
            refine bodyPost_ret (v := (.tuple #[.agg #[.bool u1, .slice u2 u3 u4, .bool u5, .slice u6 u7 u8], .int .i64 0])) (by simp [results, Try.results29, go_sem, Rc0, Rc1, Rc2, Rc3]) rfl ?_
            exact ⟨_, _, _, _, _, _, _, _, _, q, rfl, hQ.keepI (keepI_four (noI_slice _ _ _) (noI_slice _ _ _) oR _ _ _ _ _ _ _ _), Or.inr ⟨k, HS.out, _, _, _, _, HP1.out, HP2.out, Or.inr (Or.inr (Or.inr ⟨rfl, rfl, H1.out, H2.out, rfl, HQ.out.1, HQ.out.2⟩))⟩, below_store4 hbw (by omega) _ _ _ _⟩
          · have HB : Hid (z2 ≤ 1 ∨ Int.gcd z1 z2 ≠ 1) := Or.inr hg
            have H2 : Hid (Int.gcd z1 z2 ≠ 1) := hg
            clear hg
            go_wp2_with fail
            refine (isOne_any _ _ false _ hG HG.out (by rw [beq_eq_false_iff_ne]; have := H2.out; omega)).mono ?_
            rintro e w8 ⟨rfl, hb⟩
            replace oR := oR.stay hb
            replace ltR := oR.lt
            replace oA := oA.stay hb
            replace ltA := oA.lt
            replace oB := oB.stay hb
            replace ltB := oB.lt
            replace hA := hA.below hb
            replace hB := hB.below hb
            replace hbw := hbw.step hb (Nat.le_refl _)
            clear hb
            obtain ⟨Rc0, Rc1, Rc2, Rc3⟩ := oR.four
            obtain ⟨Rq0, Rq1, Rq2, Rq3⟩ := oR.frozen4
            go_wp2
            refine bodyPost_ret (v := (.tuple #[.agg #[.bool false, .slice none 0 0, .bool false, .slice none 0 0], .int .i64 10])) (by simp [results, Try.results29, go_sem, Rc0, Rc1, Rc2, Rc3]) rfl ?_
            refine ⟨_, _, _, _, _, _, _, _, _, 0, rfl, QP.zero, Or.inr ⟨k, HS.out, _, _, _, _, HP1.out, HP2.out, Or.inr (Or.inr (Or.inl ⟨rfl, rfl, HB.out, rfl, rfl⟩))⟩, ?_⟩
            first | exact hbw | exact below_store4 hbw (by omega) _ _ _ _
      · have HB : Hid (z2 ≤ 1 ∨ Int.gcd z1 z2 ≠ 1) := Or.inl (by omega)
        obtain ⟨sg, HS2⟩ : ∃ r, Hid (z2.sign = r) := ⟨_, rfl⟩
        have HS3 : sg ≤ 0 := by rw [← HS2.out]; exact sign_np hp
        clear hp
        obtain ⟨Bc0, Bc1, Bq0, Bq1⟩ := oB.two
        go_wp2_with fail
        refine (sgn_h _ z2 sg _ hB HS2.out).mono ?_
        rintro e w5 ⟨rfl, hb⟩
        clear Bc0 Bc1 Bq0 Bq1
        replace oR := oR.stay hb
        replace ltR := oR.lt
        replace oA := oA.stay hb
        replace ltA := oA.lt
        replace oB := oB.stay hb
        replace ltB := oB.lt
        replace hA := hA.below hb
        replace hB := hB.below hb
        replace hbw := hbw.step hb (Nat.le_refl _)
        clear hb
        obtain ⟨Rc0, Rc1, Rc2, Rc3⟩ := oR.four
        obtain ⟨Rq0, Rq1, Rq2, Rq3⟩ := oR.frozen4
        go_wp2
        refine bodyPost_ret (v := (.tuple #[.agg #[.bool false, .slice none 0 0, .bool false, .slice none 0 0], .int .i64 10])) (by simp [results, Try.results29, go_sem, Rc0, Rc1, Rc2, Rc3]) rfl ?_
        refine ⟨_, _, _, _, _, _, _, _, _, 0, rfl, QP.zero, Or.inr ⟨k, HS.out, _, _, _, _, HP1.out, HP2.out, Or.inr (Or.inr (Or.inl ⟨rfl, rfl, HB.out, rfl, rfl⟩))⟩, ?_⟩
        first | exact hbw | exact below_store4 hbw (by omega) _ _ _ _
    · obtain ⟨Rc0, Rc1, Rc2, Rc3⟩ := oR.four
      obtain ⟨Rq0, Rq1, Rq2, Rq3⟩ := oR.frozen4
      go_wp2
      refine bodyPost_ret (v := (.tuple #[.agg #[.bool false, .slice none 0 0, .bool false, .slice none 0 0], .int .i64 11])) (by simp [results, Try.results29, go_sem, Rc0, Rc1, Rc2, Rc3]) rfl ?_
      refine ⟨_, _, _, _, _, _, _, _, _, 0, rfl, QP.zero, Or.inr ⟨k, HS.out, _, _, _, _, HP1.out, HP2.out, Or.inr (Or.inl ⟨by decide, by decide, rfl, rfl⟩)⟩, ?_⟩
      first | exact hbw | exact below_store4 hbw (by omega) _ _ _ _
  · rcases HP2.out.codes with rfl | rfl | rfl
    · obtain ⟨Rc0, Rc1, Rc2, Rc3⟩ := oR.four
      obtain ⟨Rq0, Rq1, Rq2, Rq3⟩ := oR.frozen4
      go_wp2
      refine bodyPost_ret (v := (.tuple #[.agg #[.bool false, .slice none 0 0, .bool false, .slice none 0 0], .int .i64 10])) (by simp [results, Try.results29, go_sem, Rc0, Rc1, Rc2, Rc3]) rfl ?_
      refine ⟨_, _, _, _, _, _, _, _, _, 0, rfl, QP.zero, Or.inr ⟨k, HS.out, _, _, _, _, HP1.out, HP2.out, Or.inl ⟨Or.inr rfl, rfl, rfl⟩⟩, ?_⟩
      first | exact hbw | exact below_store4 hbw (by omega) _ _ _ _
    · obtain ⟨Rc0, Rc1, Rc2, Rc3⟩ := oR.four
      obtain ⟨Rq0, Rq1, Rq2, Rq3⟩ := oR.frozen4
      go_wp2
      refine bodyPost_ret (v := (.tuple #[.agg #[.bool false, .slice none 0 0, .bool false, .slice none 0 0], .int .i64 11])) (by simp [results, Try.results29, go_sem, Rc0, Rc1, Rc2, Rc3]) rfl ?_
      refine ⟨_, _, _, _, _, _, _, _, _, 0, rfl, QP.zero, Or.inr ⟨k, HS.out, _, _, _, _, HP1.out, HP2.out, Or.inr (Or.inl ⟨by decide, by decide, rfl, rfl⟩)⟩, ?_⟩
      first | exact hbw | exact below_store4 hbw (by omega) _ _ _ _
    · obtain ⟨Rc0, Rc1, Rc2, Rc3⟩ := oR.four
      obtain ⟨Rq0, Rq1, Rq2, Rq3⟩ := oR.frozen4
      go_wp2
      refine bodyPost_ret (v := (.tuple #[.agg #[.bool false, .slice none 0 0, .bool false, .slice none 0 0], .int .i64 11])) (by simp [results, Try.results29, go_sem, Rc0, Rc1, Rc2, Rc3]) rfl ?_
      refine ⟨_, _, _, _, _, _, _, _, _, 0, rfl, QP.zero, Or.inr ⟨k, HS.out, _, _, _, _, HP1.out, HP2.out, Or.inr (Or.inl ⟨by decide, by decide, rfl, rfl⟩)⟩, ?_⟩
      first | exact hbw | exact below_store4 hbw (by omega) _ _ _ _
theorem parseq_any (s : ByteArray) (w : World) (hl : s.size ≤ 10000) :
    Calls Try.prog 29 #[.string s] w fun e w' => ∃ s1 s2 s3 s4 s5 s6 s7 s8 co q, e = .returned (.tuple #[.agg #[.bool s1, .slice s2 s3 s4, .bool s5, .slice s6 s7 s8], .int .i64 co]) ∧ QP w' s1 s2 s3 s4 s5 s6 s7 s8 q ∧ Hid (PQ s co q) ∧ Below w.heap.size w w' := by
  rcases slash_any s with h | ⟨k, h⟩
  · exact parseq_no s w hl h
  · exact parseq_yes s k w hl h

end Go.Proofs.Ytidpbdhhbeaijab
