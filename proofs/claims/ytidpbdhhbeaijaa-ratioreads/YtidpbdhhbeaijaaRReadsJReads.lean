/- The walk of suretylaw02.RatioReads: it answers true at every input. -/
import Derived.Test.YtidpbdhhbeaijaaL0JReads
import Derived.Test.YtidpbdhhbeaijaaSame2JReads
namespace Go.Proofs.Ytidpbdhhbeaijaa
open Go.RowKit

set_option maxRecDepth 20000 in
set_option maxHeartbeats 16000000 in
theorem ratioReads_any (s : ByteArray) (w : World) (hs : s.size ≤ maxLen) :
    Calls Try.prog 3 #[.string s] w fun e w' => e = .returned (.bool true) ∧ Below w.heap.size w w' := by
  unfold maxLen at hs
  have hbw := Below.refl w.heap.size w
  go_enter Try.func3, Try.ntmps3
  go_wp2_with fail
  refine (awake2_any _).mono ?_
  rintro e w1 ⟨rfl, hb⟩
  replace hbw := hbw.step hb (Nat.le_refl _)
  clear hb
  by_cases h5 : 5000 < s.size
  · go_wp2
    refine bodyPost_ret (v := (.bool true)) (by simp [results, Try.results3, go_sem]) rfl ?_
    exact ⟨rfl, hbw⟩
  · go_wp2_with fail
    refine (parseq_any s _ (by omega)).mono ?_
    rintro e w2 ⟨xX, aX, nX, cX, yX, eX, mX, fX, co, q, rfl, hX, HP1, hb⟩
    replace hbw := hbw.step hb (Nat.le_refl _)
    clear hb
    have hn := below_new w2 (.cells #[.bool xX, .slice aX nX cX, .bool yX, .slice eX mX fX] 27 (0, 0))
    have oX := Blk.new w2 27 #[.bool xX, .slice aX nX cX, .bool yX, .slice eX mX fX]
    have lwX : w.heap.size ≤ w2.heap.size := hbw.size
    replace hX := hX.below hn
    replace hbw := hbw.step hn (Nat.le_refl _)
    clear hn
    have ltX := oX.lt
    go_wp2_with fail
    refine (rparseq_any s _ (by omega)).mono ?_
    rintro e w3 ⟨xY, aY, nY, cY, yY, eY, mY, fY, co2, q2, rfl, hY, HP2, hb⟩
    replace oX := oX.stay hb
    replace ltX := oX.lt
    replace hX := hX.below hb
    replace hbw := hbw.step hb (Nat.le_refl _)
    clear hb
    obtain ⟨rfl, rfl⟩ := HP1.out.same HP2.out
    have hn := below_new w3 (.cells #[.bool xY, .slice aY nY cY, .bool yY, .slice eY mY fY] 35 (0, 0))
    have oY := Blk.new w3 35 #[.bool xY, .slice aY nY cY, .bool yY, .slice eY mY fY]
    have neXY : w2.heap.size ≠ w3.heap.size := Nat.ne_of_lt ltX
    have lwY : w.heap.size ≤ w3.heap.size := hbw.size
    replace oX := oX.stay hn
    replace ltX := oX.lt
    replace hX := hX.below hn
    replace hY := hY.below hn
    replace hbw := hbw.step hn (Nat.le_refl _)
    clear hn
    have ltY := oY.lt
    obtain ⟨Xc0, Xc1, Xc2, Xc3⟩ := oX.four
    obtain ⟨Xq0, Xq1, Xq2, Xq3⟩ := oX.frozen4
    obtain ⟨Yc0, Yc1, Yc2, Yc3⟩ := oY.four
    obtain ⟨Yq0, Yq1, Yq2, Yq3⟩ := oY.frozen4
    go_wp2_with fail
    refine (same2_yes _ _ co q 400 _ hX.val hY.val (by decide)).mono ?_
    rintro e w4 ⟨rfl, hb⟩
    clear Xc0 Xc1 Xc2 Xc3 Xq0 Xq1 Xq2 Xq3
    clear Yc0 Yc1 Yc2 Yc3 Yq0 Yq1 Yq2 Yq3
    replace oX := oX.stay hb
    replace ltX := oX.lt
    replace oY := oY.stay hb
    replace ltY := oY.lt
    replace hX := hX.below hb
    replace hY := hY.below hb
    replace hbw := hbw.step hb (Nat.le_refl _)
    clear hb
    by_cases hc : co = 0
    · have HT : Hid (TextQ s q) := textq_read HP1.out hc
      have ec : (co != 0) = false := by rw [bne_eq_false_iff_eq]; exact hc
      clear hc
      obtain ⟨Xc0, Xc1, Xc2, Xc3⟩ := oX.four
      obtain ⟨Xq0, Xq1, Xq2, Xq3⟩ := oX.frozen4
      go_wp2_with fail
      refine (qtext_any _ q _ hX.val).mono ?_
      rintro e w5 ⟨S, rfl, hS, hb⟩
      clear Xc0 Xc1 Xc2 Xc3 Xq0 Xq1 Xq2 Xq3
      replace oX := oX.stay hb
      replace ltX := oX.lt
      replace oY := oY.stay hb
      replace ltY := oY.lt
      replace hX := hX.below hb
      replace hY := hY.below hb
      replace hbw := hbw.step hb (Nat.le_refl _)
      clear hb
      have tS : (S.toList == s.toList) = true := by rw [hS.same HT.out]; simp
      go_wp2
      refine bodyPost_ret (v := (.bool true)) (by simp [results, Try.results3, go_sem]) rfl ?_
      exact ⟨rfl, hbw⟩
    · have ec : (co != 0) = true := by rw [bne_iff_ne]; exact hc
      clear hc
      go_wp2
      refine bodyPost_ret (v := (.bool true)) (by simp [results, Try.results3, go_sem]) rfl ?_
      exact ⟨rfl, hbw⟩
end Go.Proofs.Ytidpbdhhbeaijaa
