/- The walk of suretylaw01.ArithPowers: it answers true at every text and every machine number. -/
import Derived.Test.YteaejdcnpjhpoaaRPow2
import Derived.Test.YteaejdcnpjhpoaaReads
import Derived.OpenShut
namespace Go.Proofs.Yteaejdcnpjhpoaa
open Go.RowKit

theorem pow_neg_h (n : Int) (va : Value) (x : Int) (w : World) (ha : AInt w va x) (hn : n < 0) :
    Calls Try.prog 42 #[va, .int .i64 n] w fun e w' => ∃ s a n c, e = .returned (.tuple #[.agg #[.bool s, .slice a n c], .int .i64 1]) ∧ AInt w' (.agg #[.bool s, .slice a n c]) 0 ∧ Below w.heap.size w w' := by
  refine (pow_neg n va x w ha hn).mono ?_
  rintro e w' ⟨rfl, hb⟩
  exact ⟨_, _, _, _, rfl, AInt.zero _, hb⟩
theorem rPow_neg_h (n : Int) (va : Value) (x : Int) (w : World) (ha : RNum w va x 400) (hn : n < 0) :
    Calls Try.prog 43 #[va, .int .i64 n] w fun e w' => ∃ s a n c, e = .returned (.tuple #[.agg #[.bool s, .slice a n c], .int .i64 1]) ∧ RNum w' (.agg #[.bool s, .slice a n c]) 0 400 ∧ Below w.heap.size w w' := by
  refine (rPow_neg n va x w ha hn).mono ?_
  rintro e w' ⟨rfl, hb⟩
  exact ⟨_, _, _, _, rfl, RNum.zero _ _, hb⟩
theorem rPow_h (N : Nat) (va : Value) (x z : Int) (w : World) (ha : RNum w va x 400) (hN : (N : Int) ≤ 9223372036854775807) (hz' : x ^ N = z) :
    Calls Try.prog 43 #[va, .int .i64 N] w fun e w' => ∃ s a n c, e = .returned (.tuple #[.agg #[.bool s, .slice a n c], .int .i64 (ec z)]) ∧ RNum w' (.agg #[.bool s, .slice a n c]) (hz z) 400 ∧ Below w.heap.size w w' := rPow_any N va x z w ha hN hz'

set_option maxRecDepth 20000 in
set_option maxHeartbeats 8000000 in
theorem powers_neg (s : ByteArray) (n : Int) (hn : n < 0) (w : World) (hs : s.size ≤ maxLen) :
    Calls Try.prog 8 #[.string s, .int .i64 n] w fun e w' => e = .returned (.bool true) ∧ Below w.heap.size w w' := by
  go_enter Try.func8, Try.ntmps8
  go_wp2_with fail
  refine (awake_any _).mono ?_
  rintro e w1 ⟨rfl, hbw⟩
  go_wp2_with fail
  refine (num_h s _ hs).mono ?_
  rintro e w2 ⟨za, xa, aa, na, ca, ya, da, ma, fa, rfl, ka, ra, hb2⟩
  have hn1 := below_new w2 (.cells #[.bool xa, .slice aa na ca] 25 (0, 0))
  have hn2 := below_new (w2.alloc (.cells #[.bool xa, .slice aa na ca] 25 (0, 0))) (.cells #[.bool ya, .slice da ma fa] 31 (0, 0))
  have ha := (VI.new ka).stay hn2
  have hr := (ra.below hn1).below hn2
  have R0 := Blk.new (w2.alloc (.cells #[.bool xa, .slice aa na ca] 25 (0, 0))) 31 #[.bool ya, .slice da ma fa]
  simp only [World.size_alloc] at R0
  replace hbw := ((hbw.step hb2 (Nat.le_refl _)).step hn1 (Nat.le_refl _)).step hn2 (Nat.le_refl _)
  clear hb2 ka ra hn1 hn2
  obtain ⟨a0, a1⟩ := ha.cells
  obtain ⟨r0, r1, -, -⟩ := R0.two
  go_wp2_with fail
  refine (pow_neg_h n _ za _ ha.int hn).mono ?_
  rintro e w3 ⟨xp, ap, np, cp, rfl, kp, hb3⟩
  have hn1 := below_new w3 (.cells #[.bool xp, .slice ap np cp] 25 (0, 0))
  have hp := VI.new kp
  replace hr := (hr.below hb3).below hn1
  replace R0 := (R0.stay hb3).stay hn1
  replace hbw := (hbw.step hb3 (Nat.le_refl _)).step hn1 (Nat.le_refl _)
  clear ha a0 a1 r0 r1 hb3 kp hn1
  obtain ⟨p0, p1⟩ := hp.cells
  obtain ⟨r0, r1, -, -⟩ := R0.two
  go_wp2_with fail
  refine (rPow_neg_h n _ za _ hr hn).mono ?_
  rintro e w4 ⟨xq, aq, nq, cq, rfl, kq, hb4⟩
  have hn1 := below_new w4 (.cells #[.bool xq, .slice aq nq cq] 31 (0, 0))
  replace hp := (hp.stay hb4).stay hn1
  have Q0 := Blk.new w4 31 #[.bool xq, .slice aq nq cq]
  have hq := kq.below hn1
  replace hbw := (hbw.step hb4 (Nat.le_refl _)).step hn1 (Nat.le_refl _)
  clear p0 p1 r0 r1 hr R0 hb4 kq hn1
  obtain ⟨p0, p1⟩ := hp.cells
  obtain ⟨q0, q1, -, -⟩ := Q0.two
  go_wp2_with fail
  refine (same_yes _ _ 1 0 400 _ hp.int hq (by decide)).mono ?_
  rintro e w5 ⟨rfl, hb5⟩
  go_wp2
  go_ret
  exact ⟨rfl, hbw.step hb5 (Nat.le_refl _)⟩

set_option maxRecDepth 20000 in
set_option maxHeartbeats 8000000 in
theorem powers_pos (s : ByteArray) (N : Nat) (hN : (N : Int) ≤ 9223372036854775807) (w : World) (hs : s.size ≤ maxLen) :
    Calls Try.prog 8 #[.string s, .int .i64 N] w fun e w' => e = .returned (.bool true) ∧ Below w.heap.size w w' := by
  go_enter Try.func8, Try.ntmps8
  go_wp2_with fail
  refine (awake_any _).mono ?_
  rintro e w1 ⟨rfl, hbw⟩
  go_wp2_with fail
  refine (num_h s _ hs).mono ?_
  rintro e w2 ⟨za, xa, aa, na, ca, ya, da, ma, fa, rfl, ka, ra, hb2⟩
  have hn1 := below_new w2 (.cells #[.bool xa, .slice aa na ca] 25 (0, 0))
  have hn2 := below_new (w2.alloc (.cells #[.bool xa, .slice aa na ca] 25 (0, 0))) (.cells #[.bool ya, .slice da ma fa] 31 (0, 0))
  have ha := (VI.new ka).stay hn2
  have hr := (ra.below hn1).below hn2
  have R0 := Blk.new (w2.alloc (.cells #[.bool xa, .slice aa na ca] 25 (0, 0))) 31 #[.bool ya, .slice da ma fa]
  simp only [World.size_alloc] at R0
  replace hbw := ((hbw.step hb2 (Nat.le_refl _)).step hn1 (Nat.le_refl _)).step hn2 (Nat.le_refl _)
  clear hb2 ka ra hn1 hn2
  obtain ⟨a0, a1⟩ := ha.cells
  obtain ⟨r0, r1, -, -⟩ := R0.two
  go_wp2_with fail
  refine (pow_any N _ za _ _ ha.int hN rfl).mono ?_
  rintro e w3 ⟨xp, ap, np, cp, rfl, kp, hb3⟩
  have hn1 := below_new w3 (.cells #[.bool xp, .slice ap np cp] 25 (0, 0))
  have hp := VI.new kp
  replace hr := (hr.below hb3).below hn1
  replace R0 := (R0.stay hb3).stay hn1
  replace hbw := (hbw.step hb3 (Nat.le_refl _)).step hn1 (Nat.le_refl _)
  clear ha a0 a1 r0 r1 hb3 kp hn1
  obtain ⟨p0, p1⟩ := hp.cells
  obtain ⟨r0, r1, -, -⟩ := R0.two
  go_wp2_with fail
  refine (rPow_h N _ za _ _ hr hN rfl).mono ?_
  rintro e w4 ⟨xq, aq, nq, cq, rfl, kq, hb4⟩
  have hn1 := below_new w4 (.cells #[.bool xq, .slice aq nq cq] 31 (0, 0))
  replace hp := (hp.stay hb4).stay hn1
  have Q0 := Blk.new w4 31 #[.bool xq, .slice aq nq cq]
  have hq := kq.below hn1
  replace hbw := (hbw.step hb4 (Nat.le_refl _)).step hn1 (Nat.le_refl _)
  clear p0 p1 r0 r1 hr R0 hb4 kq hn1
  obtain ⟨p0, p1⟩ := hp.cells
  obtain ⟨q0, q1, -, -⟩ := Q0.two
  go_wp2_with fail
  refine (same_yes _ _ (ec (za ^ N)) (hz (za ^ N)) 400 _ hp.int hq (by decide)).mono ?_
  rintro e w5 ⟨rfl, hb5⟩
  go_wp2
  go_ret
  exact ⟨rfl, hbw.step hb5 (Nat.le_refl _)⟩

theorem arithPowers_any (s : ByteArray) (n : Int) (w : World) (hs : s.size ≤ maxLen) (hn : (Lit.int .i64 n).wf = true) :
    Calls Try.prog 8 #[.string s, .int .i64 n] w fun e w' => e = .returned (.bool true) ∧ Below w.heap.size w w' := by
  have hb := bounds_i64 hn
  by_cases h : n < 0
  · exact powers_neg s n h w hs
  · obtain ⟨N, rfl⟩ := Int.eq_ofNat_of_zero_le (Int.not_lt.1 h)
    exact powers_pos s N hb.2 w hs
end Go.Proofs.Yteaejdcnpjhpoaa
