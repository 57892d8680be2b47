/- Contract of ratio's Text; it proves no statement of the seat. -/
import Derived.Test.YtidpbdhhbeaijabJoin14Folds
namespace Go.Proofs.Ytidpbdhhbeaijab
open Go.RowKit

/-- A rational's text. -/
def TextQ (S : ByteArray) (q : Rat) : Prop := (q.den = 1 ∧ TextOf S q.num) ∨ (q.den ≠ 1 ∧ ∃ S1 S2, TextOf S1 q.num ∧ TextOf S2 q.den ∧ S = S1 ++ ⟨#[47]⟩ ++ S2)
theorem TextQ.same {S T : ByteArray} {q : Rat} (h : TextQ S q) (k : TextQ T q) : S = T := by
  rcases h with ⟨a, b⟩ | ⟨a, S1, S2, b1, b2, b3⟩ <;> rcases k with ⟨c, d⟩ | ⟨c, T1, T2, d1, d2, d3⟩
  · exact b.same d
  · exact absurd a c
  · exact absurd c a
  · rw [b3, d3, b1.same d1, b2.same d2]
theorem TextOf.size {S : ByteArray} {z : Int} (h : TextOf S z) (hz' : z.natAbs < lim) : S.size ≤ 400 := by
  obtain ⟨neg, ds, hn, hd, h1, h2, h3⟩ := h
  have hl : ds.length ≤ 309 := by
    rcases Nat.lt_or_ge 309 ds.length with k | k
    · have h4 := hn.ge (B := 10) (List.ne_nil_of_length_pos (by omega)) (by decide)
      have h5 := lim_dec (ds.length - 1) (by omega)
      rw [h2, sv_natAbs] at hz'
      omega
    · exact k
  rw [← bs_length, h3]
  unfold showB byt
  split
  · decide
  · rw [List.length_append, List.length_reverse, List.length_map]
    split <;> simp <;> omega
def TXT (z : Int) : Value → World → Prop := fun u _ => ∃ S, u = .string S ∧ TextOf S z
def TX1 (z : Int) : Value → World → Prop := fun u _ => ∃ S, u = .string (S ++ ⟨#[47]⟩) ∧ TextOf S z
def TXQ (q : Rat) : Value → World → Prop := fun u _ => ∃ S, u = .string S ∧ TextQ S q
theorem mo_txt {z : Int} : Mono (TXT z) := fun _ _ _ _ h => h
theorem mo_tx1 {z : Int} : Mono (TX1 z) := fun _ _ _ _ h => h
theorem mo_txq {q : Rat} : Mono (TXQ q) := fun _ _ _ _ h => h

set_option maxRecDepth 20000 in
set_option maxHeartbeats 1000000 in
theorem qtext_any (vX : Value) (q : Rat) (w : World) (hX : QV w vX q) :
    Calls Try.prog 11 #[vX] w fun e w' => ∃ S, e = .returned (.string S) ∧ TextQ S q ∧ Below w.heap.size w w' := by
  obtain ⟨xX, aX, nX, cX, yX, eX, mX, fX, rfl, hX⟩ := hX
  have oX := (Blk.new w 27 #[.bool xX, .slice aX nX cX, .bool yX, .slice eX mX fX])
  have hbw : Below w.heap.size w (w.alloc (.cells #[.bool xX, .slice aX nX cX, .bool yX, .slice eX mX fX] 27 (0, 0))) := by go_grown
  replace hX := hX.below hbw
  have ltX := oX.lt
  go_enter Try.func11, Try.ntmps11
  by_cases hd : q.den = 1
  · have HD : Hid (q.den = 1) := hd
    clear hd
    obtain ⟨Xc0, Xc1, Xc2, Xc3⟩ := oX.four
    obtain ⟨Xq0, Xq1, Xq2, Xq3⟩ := oX.frozen4
    go_wp2_with fail
    refine (isWhole_any _ q true _ hX.val (by rw [HD.out]; rfl)).mono ?_
    rintro e w1 ⟨rfl, hb⟩
    clear Xc0 Xc1 Xc2 Xc3 Xq0 Xq1 Xq2 Xq3
    replace oX := oX.stay hb
    replace ltX := oX.lt
    replace hX := hX.below hb
    replace hbw := hbw.step hb (Nat.le_refl _)
    clear hb
    obtain ⟨Xc0, Xc1, Xc2, Xc3⟩ := oX.four
    obtain ⟨Xq0, Xq1, Xq2, Xq3⟩ := oX.frozen4
    go_wp2_with fail
    refine (text_a _ q.num _ hX.1).mono ?_
    rintro e w2 ⟨S, rfl, hS, hb⟩
    clear Xc0 Xc1 Xc2 Xc3 Xq0 Xq1 Xq2 Xq3
    replace oX := oX.stay hb
    replace ltX := oX.lt
    replace hX := hX.below hb
    replace hbw := hbw.step hb (Nat.le_refl _)
    clear hb
    go_wp2
    go_ret
    exact ⟨S, rfl, Or.inl ⟨HD.out, hS⟩, hbw⟩
  · have HD : Hid (q.den ≠ 1) := hd
    clear hd
    obtain ⟨Xc0, Xc1, Xc2, Xc3⟩ := oX.four
    obtain ⟨Xq0, Xq1, Xq2, Xq3⟩ := oX.frozen4
    go_wp2_with fail
    refine (isWhole_any _ q false _ hX.val (by rw [beq_eq_false_iff_ne]; exact HD.out)).mono ?_
    rintro e w1 ⟨rfl, hb⟩
    clear Xc0 Xc1 Xc2 Xc3 Xq0 Xq1 Xq2 Xq3
    replace oX := oX.stay hb
    replace ltX := oX.lt
    replace hX := hX.below hb
    replace hbw := hbw.step hb (Nat.le_refl _)
    clear hb
    have hdz := hX.2
    rw [dz_not HD.out] at hdz
    have HZ1 : Hid (q.num.natAbs < lim) := hX.1.lt
    have HZ2 : Hid ((q.den : Int).natAbs < lim) := hdz.lt
    go_wp2
    refine wp_region_M (by kernel_rfl) [2, 8, 9, 10, 11, 12, 13, 14, 15] [none, none, some 2, none, none, none, none, none, some 8, some 9, some 10, some 11, some 12, some 13, some 14, some 15] (fun U => by kernel_rfl) (fun L U wr => Below w.heap.size w wr ∧ KeepI w1 wr ∧ w1.heap.size ≤ wr.heap.size ∧ Blk 27 wr (w.heap.size) #[.bool xX, .slice aX nX cX, .bool yX, .slice eX mX fX] ∧ (L 0 = true → IS (.pointer (some ⟨w.heap.size, 0, none⟩)) (U 8) wr) ∧ (L 1 = true → IS (.agg #[.bool xX, .slice aX nX cX]) (U 9) wr) ∧ (L 2 = true → TXT q.num (U 10) wr) ∧ (L 3 = true → TX1 q.num (U 11) wr) ∧ (L 4 = true → IS (.pointer (some ⟨w.heap.size, 2, none⟩)) (U 12) wr) ∧ (L 5 = true → IS (.agg #[.bool yX, .slice eX mX fX]) (U 13) wr) ∧ (L 6 = true → TXT q.den (U 14) wr) ∧ (L 7 = true → TXQ q (U 15) wr) ∧ (L 8 = true → TXQ q (U 2) wr)) (by kernel_rfl) ?_ ?_ ?_
    · exact fun U => ⟨hbw.drew, KeepI.below (Below.refl _ _).drew, Nat.le_refl _, oX.drew, (fun h => by cases h), (fun h => by cases h), (fun h => by cases h), (fun h => by cases h), (fun h => by cases h), (fun h => by cases h), (fun h => by cases h), (fun h => by cases h), (fun h => by cases h)⟩
    · refine StepsU.run rfl ?_ ?_
      · intro L U wr hF hlk haf A K hA hK
        have HA : Hid (A = putAll _ _ U) := hA
        clear hA
        simp [Aft, Region.binds] at haf
        obtain ⟨fb, fk, fs, oX, f0, f1, f2, f3, f4, f5, f6, f7, f8⟩ := hF
        have e1 : A.tmps[1]? = some (.pointer (some ⟨w.heap.size, 0, none⟩)) := by rw [HA.out]; kernel_rfl
        refine ⟨?_⟩
        go_simp
        refine hK (upd U 8 (.pointer (some ⟨w.heap.size, 0, none⟩))) _ _ ?_ ?_
        · rw [HA.out]; kernel_rfl
        · exact ⟨fb, fk, fs, oX, (fun _ => rfl), f1, f2, f3, f4, f5, f6, f7, f8⟩
      refine StepsU.run rfl ?_ ?_
      · intro L U wr hF hlk haf A K hA hK
        have HA : Hid (A = putAll _ _ U) := hA
        clear hA
        simp [Aft, Region.binds] at haf
        obtain ⟨fb, fk, fs, oX, f0, f1, f2, f3, f4, f5, f6, f7, f8⟩ := hF
        have g0 := f0 (by simp [haf])
        have e8 := rd HA.out 8 (by kernel_rfl) g0
        obtain ⟨c0, c1, c2, c3⟩ := oX.four
        refine ⟨?_⟩
        go_simp
        refine hK (upd U 9 (.agg #[.bool xX, .slice aX nX cX])) _ _ ?_ ?_
        · rw [HA.out]; kernel_rfl
        · exact ⟨fb, fk, fs, oX, f0, (fun _ => rfl), f2, f3, f4, f5, f6, f7, f8⟩
      refine StepsU.run rfl ?_ ?_
      · intro L U wr hF hlk haf A K hA hK
        have HA : Hid (A = putAll _ _ U) := hA
        clear hA
        simp [Aft, Region.binds] at haf
        obtain ⟨fb, fk, fs, oX, f0, f1, f2, f3, f4, f5, f6, f7, f8⟩ := hF
        have g1 := f1 (by simp [haf])
        have e9 := rd HA.out 9 (by kernel_rfl) g1
        refine ⟨?_⟩
        go_simp
        refine (text_a _ q.num _ (hX.1.keepI fk)).mono ?_
        rintro e w1 ⟨S, rfl, hS, hb⟩
        go_simp
        refine hK (upd U 10 (.string S)) _ _ ?_ ?_
        · rw [HA.out]; kernel_rfl
        · exact ⟨(fb.step hb (Nat.le_refl _)), (fk.trans (KeepI.below hb)), (Nat.le_trans fs hb.size), (oX.stay hb), (mv mo_is (KeepI.below hb) f0), (mv mo_is (KeepI.below hb) f1), (fun _ => ⟨S, rfl, hS⟩), (mv mo_tx1 (KeepI.below hb) f3), (mv mo_is (KeepI.below hb) f4), (mv mo_is (KeepI.below hb) f5), (mv mo_txt (KeepI.below hb) f6), (mv mo_txq (KeepI.below hb) f7), (mv mo_txq (KeepI.below hb) f8)⟩
      refine StepsU.run rfl ?_ ?_
      · intro L U wr hF hlk haf A K hA hK
        have HA : Hid (A = putAll _ _ U) := hA
        clear hA
        simp [Aft, Region.binds] at haf
        obtain ⟨fb, fk, fs, oX, f0, f1, f2, f3, f4, f5, f6, f7, f8⟩ := hF
        have g2 := f2 (by simp [haf])
        obtain ⟨S, hS, hT⟩ := g2
        have zS : ¬ 9223372036854775807 < S.size + 1 := by have := hT.size HZ1.out; omega
        have e10 := rd HA.out 10 (by kernel_rfl) hS
        refine ⟨?_⟩
        go_simp
        refine hK (upd U 11 (.string (S ++ ⟨#[47]⟩))) _ _ ?_ ?_
        · rw [HA.out]; kernel_rfl
        · exact ⟨fb, fk, fs, oX, f0, f1, f2, (fun _ => ⟨S, rfl, hT⟩), f4, f5, f6, f7, f8⟩
      refine StepsU.run rfl ?_ ?_
      · intro L U wr hF hlk haf A K hA hK
        have HA : Hid (A = putAll _ _ U) := hA
        clear hA
        simp [Aft, Region.binds] at haf
        obtain ⟨fb, fk, fs, oX, f0, f1, f2, f3, f4, f5, f6, f7, f8⟩ := hF
        have e1 : A.tmps[1]? = some (.pointer (some ⟨w.heap.size, 0, none⟩)) := by rw [HA.out]; kernel_rfl
        refine ⟨?_⟩
        go_simp
        refine hK (upd U 12 (.pointer (some ⟨w.heap.size, 2, none⟩))) _ _ ?_ ?_
        · rw [HA.out]; kernel_rfl
        · exact ⟨fb, fk, fs, oX, f0, f1, f2, f3, (fun _ => rfl), f5, f6, f7, f8⟩
      refine StepsU.run rfl ?_ ?_
      · intro L U wr hF hlk haf A K hA hK
        have HA : Hid (A = putAll _ _ U) := hA
        clear hA
        simp [Aft, Region.binds] at haf
        obtain ⟨fb, fk, fs, oX, f0, f1, f2, f3, f4, f5, f6, f7, f8⟩ := hF
        have g4 := f4 (by simp [haf])
        have e12 := rd HA.out 12 (by kernel_rfl) g4
        obtain ⟨c0, c1, c2, c3⟩ := oX.four
        refine ⟨?_⟩
        go_simp
        refine hK (upd U 13 (.agg #[.bool yX, .slice eX mX fX])) _ _ ?_ ?_
        · rw [HA.out]; kernel_rfl
        · exact ⟨fb, fk, fs, oX, f0, f1, f2, f3, f4, (fun _ => rfl), f6, f7, f8⟩
      refine StepsU.run rfl ?_ ?_
      · intro L U wr hF hlk haf A K hA hK
        have HA : Hid (A = putAll _ _ U) := hA
        clear hA
        simp [Aft, Region.binds] at haf
        obtain ⟨fb, fk, fs, oX, f0, f1, f2, f3, f4, f5, f6, f7, f8⟩ := hF
        have g5 := f5 (by simp [haf])
        have e13 := rd HA.out 13 (by kernel_rfl) g5
        refine ⟨?_⟩
        go_simp
        refine (text_a _ q.den _ (hdz.keepI fk)).mono ?_
        rintro e w1 ⟨S, rfl, hS, hb⟩
        go_simp
        refine hK (upd U 14 (.string S)) _ _ ?_ ?_
        · rw [HA.out]; kernel_rfl
        · exact ⟨(fb.step hb (Nat.le_refl _)), (fk.trans (KeepI.below hb)), (Nat.le_trans fs hb.size), (oX.stay hb), (mv mo_is (KeepI.below hb) f0), (mv mo_is (KeepI.below hb) f1), (mv mo_txt (KeepI.below hb) f2), (mv mo_tx1 (KeepI.below hb) f3), (mv mo_is (KeepI.below hb) f4), (mv mo_is (KeepI.below hb) f5), (fun _ => ⟨S, rfl, hS⟩), (mv mo_txq (KeepI.below hb) f7), (mv mo_txq (KeepI.below hb) f8)⟩
      refine StepsU.run rfl ?_ ?_
      · intro L U wr hF hlk haf A K hA hK
        have HA : Hid (A = putAll _ _ U) := hA
        clear hA
        simp [Aft, Region.binds] at haf
        obtain ⟨fb, fk, fs, oX, f0, f1, f2, f3, f4, f5, f6, f7, f8⟩ := hF
        have g3 := f3 (by simp [haf])
        have g6 := f6 (by simp [haf])
        obtain ⟨S, hS, hT⟩ := g3
        obtain ⟨S2, hS2, hT2⟩ := g6
        have zS : ¬ 9223372036854775807 < S.size + 1 + S2.size := by have := hT.size HZ1.out; have := hT2.size HZ2.out; omega
        have e11 := rd HA.out 11 (by kernel_rfl) hS
        have e14 := rd HA.out 14 (by kernel_rfl) hS2
        refine ⟨?_⟩
        go_simp
        refine hK (upd U 15 (.string (S ++ ⟨#[47]⟩ ++ S2))) _ _ ?_ ?_
        · rw [HA.out]; kernel_rfl
        · exact ⟨fb, fk, fs, oX, f0, f1, f2, f3, f4, f5, f6, (fun _ => ⟨_, rfl, Or.inr ⟨HD.out, S, S2, hT, hT2, rfl⟩⟩), f8⟩
      refine StepsU.run rfl ?_ StepsU.nil
      · intro L U wr hF hlk haf A K hA hK
        have HA : Hid (A = putAll _ _ U) := hA
        clear hA
        simp [Aft, Region.binds] at haf
        obtain ⟨fb, fk, fs, oX, f0, f1, f2, f3, f4, f5, f6, f7, f8⟩ := hF
        have g7 := f7 (by simp [haf])
        have e15 := rd HA.out 15 (by kernel_rfl) rfl
        refine ⟨?_⟩
        go_simp
        refine hK (upd U 2 (U 15)) _ _ ?_ ?_
        · rw [HA.out]; kernel_rfl
        · exact ⟨fb, fk, fs, oX, f0, f1, f2, f3, f4, f5, f6, f7, (fun _ => g7)⟩
    intro L U2 V2 hall hF
    have hbw0 := hbw
    clear hbw
    obtain ⟨hbw, fk, fs, oX, f0, f1, f2, f3, f4, f5, f6, f7, f8⟩ := hF
    have g0 := f0 (hall 0 (by decide))
    have g1 := f1 (hall 1 (by decide))
    have g2 := f2 (hall 2 (by decide))
    have g3 := f3 (hall 3 (by decide))
    have g4 := f4 (hall 4 (by decide))
    have g5 := f5 (hall 5 (by decide))
    have g6 := f6 (hall 6 (by decide))
    have g7 := f7 (hall 7 (by decide))
    have g8 := f8 (hall 8 (by decide))
    clear hall f0 f1 f2 f3 f4 f5 f6 f7 f8
    replace hX := hX.keepI fk
    replace hdz := hdz.keepI fk
    replace ltX := Nat.lt_of_lt_of_le ltX fs
    clear g0
    clear g1
    clear g2
    clear g3
    clear g4
    clear g5
    clear g6
    clear g7
    clear hbw0
    simp only [setM_some, setM_none, setM_nil]
    clear fk fs
    obtain ⟨S, hS, hT⟩ := g8
    go_wp2
    refine bodyPost_ret (v := .string S) (by simp [results, Try.results11, go_sem, hS]) rfl ?_
    exact ⟨S, rfl, hT, hbw⟩

end Go.Proofs.Ytidpbdhhbeaijab
