/- The walk of suretylaw01.ArithDivisors: it answers true at every two texts. -/
import Derived.Test.YteaejdcnpjhpoabVarsD
namespace Go.Proofs.Yteaejdcnpjhpoab
open Go.RowKit

set_option maxRecDepth 20000 in
set_option maxHeartbeats 16000000 in
theorem arithDivisors_any (s t : ByteArray) (w : World) (hs : s.size ≤ maxLen) (ht : t.size ≤ maxLen) :
    Calls Try.prog 5 #[.string s, .string t] w fun e w' => e = .returned (.bool true) ∧ Below w.heap.size w w' := by
  go_enter Try.func5, Try.ntmps5
  go_wp2_with fail
  refine (awake_any _).mono ?_
  rintro e w1 ⟨rfl, hbw⟩
  go_wp2_with fail
  refine (num_h s _ (by assumption)).mono ?_
  rintro e w2 ⟨za, xa, aa, na, ca, ya, da, ma, fa, rfl, ka, -, hb2⟩
  have ha := (VI.new ka).stay (below_new _ (.cells #[.bool ya, .slice da ma fa] 28 (0, 0)))
  have la := hbw.size
  replace hbw := ((hbw.step hb2 (Nat.le_refl _)).step (below_new _ (.cells #[.bool xa, .slice aa na ca] 25 (0, 0))) (Nat.le_refl _)).step (below_new _ (.cells #[.bool ya, .slice da ma fa] 28 (0, 0))) (Nat.le_refl _)
  obtain ⟨a0, a1⟩ := ha.cells
  clear hb2 ka la
  go_wp2_with fail
  refine (num_h t _ (by assumption)).mono ?_
  rintro e w3 ⟨zb, xb, ab, nb, cb, yb, db, mb, fb, rfl, kb, -, hb3⟩
  replace ha := ((ha.stay hb3).stay (below_new _ (.cells #[.bool xb, .slice ab nb cb] 25 (0, 0)))).stay (below_new _ (.cells #[.bool yb, .slice db mb fb] 28 (0, 0)))
  clear a0 a1
  obtain ⟨a0, a1⟩ := ha.cells
  have hb := (VI.new kb).stay (below_new _ (.cells #[.bool yb, .slice db mb fb] 28 (0, 0)))
  have lb := hbw.size
  replace hbw := ((hbw.step hb3 (Nat.le_refl _)).step (below_new _ (.cells #[.bool xb, .slice ab nb cb] 25 (0, 0))) (Nat.le_refl _)).step (below_new _ (.cells #[.bool yb, .slice db mb fb] 28 (0, 0))) (Nat.le_refl _)
  obtain ⟨b0, b1⟩ := hb.cells
  clear hb3 kb lb
  obtain ⟨zd, Hzd⟩ : ∃ z, Hid (((Int.gcd za zb : Nat) : Int) = z) := ⟨_, rfl⟩
  obtain ⟨sa, Hsa⟩ : ∃ z, Hid (za.sign = z) := ⟨_, rfl⟩
  obtain ⟨sb, Hsb⟩ : ∃ z, Hid (zb.sign = z) := ⟨_, rfl⟩
  go_wp2_with fail
  refine (gcd_z _ _ za zb zd _ ha.int hb.int Hzd.out).mono ?_
  rintro e w4 ⟨xd, ad, nd, cd, rfl, kd, hb4⟩
  replace ha := (ha.stay hb4).stay (below_new _ (.cells #[.bool xd, .slice ad nd cd] 25 (0, 0)))
  clear a0 a1
  obtain ⟨a0, a1⟩ := ha.cells
  replace hb := (hb.stay hb4).stay (below_new _ (.cells #[.bool xd, .slice ad nd cd] 25 (0, 0)))
  clear b0 b1
  obtain ⟨b0, b1⟩ := hb.cells
  have hd := VI.new kd
  replace hbw := (hbw.step hb4 (Nat.le_refl _)).step (below_new _ (.cells #[.bool xd, .slice ad nd cd] 25 (0, 0))) (Nat.le_refl _)
  obtain ⟨d0, d1⟩ := hd.cells
  clear hb4 kd
  go_wp2_with fail
  refine (sgn_h _ za sa _ ha.int Hsa.out).mono ?_
  rintro e w5 ⟨rfl, hb5⟩
  replace ha := ha.stay hb5
  clear a0 a1
  obtain ⟨a0, a1⟩ := ha.cells
  replace hb := hb.stay hb5
  clear b0 b1
  obtain ⟨b0, b1⟩ := hb.cells
  replace hd := hd.stay hb5
  clear d0 d1
  obtain ⟨d0, d1⟩ := hd.cells
  replace hbw := hbw.step hb5 (Nat.le_refl _)
  clear hb5
  by_cases hA : za = 0
  · have qA : (sa == 0) = true := by rw [beq_iff_eq, ← Hsa.out, hA]; rfl
    go_wp2_with fail
    refine (sgn_h _ zb sb _ hb.int Hsb.out).mono ?_
    rintro e w6 ⟨rfl, hb6⟩
    replace ha := ha.stay hb6
    clear a0 a1
    obtain ⟨a0, a1⟩ := ha.cells
    replace hb := hb.stay hb6
    clear b0 b1
    obtain ⟨b0, b1⟩ := hb.cells
    replace hd := hd.stay hb6
    clear d0 d1
    obtain ⟨d0, d1⟩ := hd.cells
    replace hbw := hbw.step hb6 (Nat.le_refl _)
    clear hb6
    by_cases hB : zb = 0
    · have qB : (sb == 0) = true := by rw [beq_iff_eq, ← Hsb.out, hB]; rfl
      have HD : Hid (zd.sign = 0) := by show _ = _; rw [← Hzd.out, hA, hB]; rfl
      clear hA hB
      go_wp2_with fail
      refine (sgn_h _ zd 0 _ hd.int HD.out).mono ?_
      rintro e w7 ⟨rfl, hb7⟩
      replace ha := ha.stay hb7
      clear a0 a1
      obtain ⟨a0, a1⟩ := ha.cells
      replace hb := hb.stay hb7
      clear b0 b1
      obtain ⟨b0, b1⟩ := hb.cells
      replace hd := hd.stay hb7
      clear d0 d1
      obtain ⟨d0, d1⟩ := hd.cells
      replace hbw := hbw.step hb7 (Nat.le_refl _)
      clear hb7
      go_wp2
      go_ret
      exact ⟨rfl, hbw⟩
    · have qB : (sb == 0) = false := by rw [← Hsb.out, beq_eq_false_iff_ne]; exact fun h => hB (Int.sign_eq_zero_iff_zero.1 h)
      have HN : Hid (¬ (za = 0 ∧ zb = 0)) := fun h => hB h.2
      clear hA hB
      have HP : Hid (0 < zd) := gcd_pos Hzd.out HN.out
      have HF : Hid (za.fmod zd = 0 ∧ zb.fmod zd = 0 ∧ ((Int.gcd (za.fdiv zd) (zb.fdiv zd) : Nat) : Int) = 1) := gcd_facts Hzd.out HP.out
      obtain ⟨zx, Hzx⟩ : ∃ z, Hid (za.fdiv zd = z) := ⟨_, rfl⟩
      obtain ⟨zy, Hzy⟩ : ∃ z, Hid (zb.fdiv zd = z) := ⟨_, rfl⟩
      go_wp2_with fail
      refine (div_h _ _ za zd zx 0 _ ha.int hd.int (Int.ne_of_gt HP.out) Hzx.out HF.out.1).mono ?_
      rintro e w7 ⟨xx, ax, nx, cx, xp, ap, np, cp, rfl, kx, kp, hb7⟩
      replace ha := ((ha.stay hb7).stay (below_new _ (.cells #[.bool xx, .slice ax nx cx] 25 (0, 0)))).stay (below_new _ (.cells #[.bool xp, .slice ap np cp] 25 (0, 0)))
      clear a0 a1
      obtain ⟨a0, a1⟩ := ha.cells
      replace hb := ((hb.stay hb7).stay (below_new _ (.cells #[.bool xx, .slice ax nx cx] 25 (0, 0)))).stay (below_new _ (.cells #[.bool xp, .slice ap np cp] 25 (0, 0)))
      clear b0 b1
      obtain ⟨b0, b1⟩ := hb.cells
      replace hd := ((hd.stay hb7).stay (below_new _ (.cells #[.bool xx, .slice ax nx cx] 25 (0, 0)))).stay (below_new _ (.cells #[.bool xp, .slice ap np cp] 25 (0, 0)))
      clear d0 d1
      obtain ⟨d0, d1⟩ := hd.cells
      have hx := (VI.new kx).stay (below_new _ (.cells #[.bool xp, .slice ap np cp] 25 (0, 0)))
      have hp := VI.new (kp.below (below_new _ (.cells #[.bool xx, .slice ax nx cx] 25 (0, 0))))
      simp only [World.size_alloc] at hp
      replace hbw := ((hbw.step hb7 (Nat.le_refl _)).step (below_new _ (.cells #[.bool xx, .slice ax nx cx] 25 (0, 0))) (Nat.le_refl _)).step (below_new _ (.cells #[.bool xp, .slice ap np cp] 25 (0, 0))) (Nat.le_refl _)
      obtain ⟨x0, x1⟩ := hx.cells
      obtain ⟨p0, p1⟩ := hp.cells
      clear hb7 kx kp
      go_wp2_with fail
      refine (div_h _ _ zb zd zy 0 _ hb.int hd.int (Int.ne_of_gt HP.out) Hzy.out HF.out.2.1).mono ?_
      rintro e w8 ⟨xy, ay, ny, cy, xq, aq, nq, cq, rfl, ky, kq, hb8⟩
      replace ha := ((ha.stay hb8).stay (below_new _ (.cells #[.bool xy, .slice ay ny cy] 25 (0, 0)))).stay (below_new _ (.cells #[.bool xq, .slice aq nq cq] 25 (0, 0)))
      clear a0 a1
      obtain ⟨a0, a1⟩ := ha.cells
      replace hb := ((hb.stay hb8).stay (below_new _ (.cells #[.bool xy, .slice ay ny cy] 25 (0, 0)))).stay (below_new _ (.cells #[.bool xq, .slice aq nq cq] 25 (0, 0)))
      clear b0 b1
      obtain ⟨b0, b1⟩ := hb.cells
      replace hd := ((hd.stay hb8).stay (below_new _ (.cells #[.bool xy, .slice ay ny cy] 25 (0, 0)))).stay (below_new _ (.cells #[.bool xq, .slice aq nq cq] 25 (0, 0)))
      clear d0 d1
      obtain ⟨d0, d1⟩ := hd.cells
      replace hx := ((hx.stay hb8).stay (below_new _ (.cells #[.bool xy, .slice ay ny cy] 25 (0, 0)))).stay (below_new _ (.cells #[.bool xq, .slice aq nq cq] 25 (0, 0)))
      clear x0 x1
      obtain ⟨x0, x1⟩ := hx.cells
      replace hp := ((hp.stay hb8).stay (below_new _ (.cells #[.bool xy, .slice ay ny cy] 25 (0, 0)))).stay (below_new _ (.cells #[.bool xq, .slice aq nq cq] 25 (0, 0)))
      clear p0 p1
      obtain ⟨p0, p1⟩ := hp.cells
      have hy := (VI.new ky).stay (below_new _ (.cells #[.bool xq, .slice aq nq cq] 25 (0, 0)))
      have hq := VI.new (kq.below (below_new _ (.cells #[.bool xy, .slice ay ny cy] 25 (0, 0))))
      simp only [World.size_alloc] at hq
      replace hbw := ((hbw.step hb8 (Nat.le_refl _)).step (below_new _ (.cells #[.bool xy, .slice ay ny cy] 25 (0, 0))) (Nat.le_refl _)).step (below_new _ (.cells #[.bool xq, .slice aq nq cq] 25 (0, 0))) (Nat.le_refl _)
      obtain ⟨y0, y1⟩ := hy.cells
      obtain ⟨q0, q1⟩ := hq.cells
      clear hb8 ky kq
      go_wp2_with fail
      refine (sgn_h _ zd 1 _ hd.int (Int.sign_eq_one_of_pos HP.out)).mono ?_
      rintro e w9 ⟨rfl, hb9⟩
      replace ha := ha.stay hb9
      clear a0 a1
      obtain ⟨a0, a1⟩ := ha.cells
      replace hb := hb.stay hb9
      clear b0 b1
      obtain ⟨b0, b1⟩ := hb.cells
      replace hd := hd.stay hb9
      clear d0 d1
      obtain ⟨d0, d1⟩ := hd.cells
      replace hx := hx.stay hb9
      clear x0 x1
      obtain ⟨x0, x1⟩ := hx.cells
      replace hp := hp.stay hb9
      clear p0 p1
      obtain ⟨p0, p1⟩ := hp.cells
      replace hy := hy.stay hb9
      clear y0 y1
      obtain ⟨y0, y1⟩ := hy.cells
      replace hq := hq.stay hb9
      clear q0 q1
      obtain ⟨q0, q1⟩ := hq.cells
      replace hbw := hbw.step hb9 (Nat.le_refl _)
      clear hb9
      go_wp2_with fail
      refine (sgn_h _ 0 0 _ hp.int rfl).mono ?_
      rintro e w10 ⟨rfl, hb10⟩
      replace ha := ha.stay hb10
      clear a0 a1
      obtain ⟨a0, a1⟩ := ha.cells
      replace hb := hb.stay hb10
      clear b0 b1
      obtain ⟨b0, b1⟩ := hb.cells
      replace hd := hd.stay hb10
      clear d0 d1
      obtain ⟨d0, d1⟩ := hd.cells
      replace hx := hx.stay hb10
      clear x0 x1
      obtain ⟨x0, x1⟩ := hx.cells
      replace hp := hp.stay hb10
      clear p0 p1
      obtain ⟨p0, p1⟩ := hp.cells
      replace hy := hy.stay hb10
      clear y0 y1
      obtain ⟨y0, y1⟩ := hy.cells
      replace hq := hq.stay hb10
      clear q0 q1
      obtain ⟨q0, q1⟩ := hq.cells
      replace hbw := hbw.step hb10 (Nat.le_refl _)
      clear hb10
      go_wp2_with fail
      refine (sgn_h _ 0 0 _ hq.int rfl).mono ?_
      rintro e w11 ⟨rfl, hb11⟩
      replace ha := ha.stay hb11
      clear a0 a1
      obtain ⟨a0, a1⟩ := ha.cells
      replace hb := hb.stay hb11
      clear b0 b1
      obtain ⟨b0, b1⟩ := hb.cells
      replace hd := hd.stay hb11
      clear d0 d1
      obtain ⟨d0, d1⟩ := hd.cells
      replace hx := hx.stay hb11
      clear x0 x1
      obtain ⟨x0, x1⟩ := hx.cells
      replace hp := hp.stay hb11
      clear p0 p1
      obtain ⟨p0, p1⟩ := hp.cells
      replace hy := hy.stay hb11
      clear y0 y1
      obtain ⟨y0, y1⟩ := hy.cells
      replace hq := hq.stay hb11
      clear q0 q1
      obtain ⟨q0, q1⟩ := hq.cells
      replace hbw := hbw.step hb11 (Nat.le_refl _)
      clear hb11
      go_wp2_with fail
      refine (gcd_z _ _ zx zy 1 _ hx.int hy.int (by rw [← Hzx.out, ← Hzy.out]; exact HF.out.2.2)).mono ?_
      rintro e w12 ⟨s1, a1, n1, c1, rfl, h1, hb12⟩
      go_wp2_with fail
      refine (text_a _ 1 _ h1).mono ?_
      rintro e w13 ⟨S, rfl, hS, hb13⟩
      have tS : (S.toList == [49]) = true := text_lit hS tx_1
      replace hbw := (hbw.step hb12 (Nat.le_refl _)).step hb13 (Nat.le_refl _)
      clear hS
      go_wp2
      go_ret
      exact ⟨rfl, hbw⟩
  · have qA : (sa == 0) = false := by rw [← Hsa.out, beq_eq_false_iff_ne]; exact fun h => hA (Int.sign_eq_zero_iff_zero.1 h)
    have HN : Hid (¬ (za = 0 ∧ zb = 0)) := fun h => hA h.1
    clear hA
    have HP : Hid (0 < zd) := gcd_pos Hzd.out HN.out
    have HF : Hid (za.fmod zd = 0 ∧ zb.fmod zd = 0 ∧ ((Int.gcd (za.fdiv zd) (zb.fdiv zd) : Nat) : Int) = 1) := gcd_facts Hzd.out HP.out
    obtain ⟨zx, Hzx⟩ : ∃ z, Hid (za.fdiv zd = z) := ⟨_, rfl⟩
    obtain ⟨zy, Hzy⟩ : ∃ z, Hid (zb.fdiv zd = z) := ⟨_, rfl⟩
    go_wp2_with fail
    refine (div_h _ _ za zd zx 0 _ ha.int hd.int (Int.ne_of_gt HP.out) Hzx.out HF.out.1).mono ?_
    rintro e w6 ⟨xx, ax, nx, cx, xp, ap, np, cp, rfl, kx, kp, hb6⟩
    replace ha := ((ha.stay hb6).stay (below_new _ (.cells #[.bool xx, .slice ax nx cx] 25 (0, 0)))).stay (below_new _ (.cells #[.bool xp, .slice ap np cp] 25 (0, 0)))
    clear a0 a1
    obtain ⟨a0, a1⟩ := ha.cells
    replace hb := ((hb.stay hb6).stay (below_new _ (.cells #[.bool xx, .slice ax nx cx] 25 (0, 0)))).stay (below_new _ (.cells #[.bool xp, .slice ap np cp] 25 (0, 0)))
    clear b0 b1
    obtain ⟨b0, b1⟩ := hb.cells
    replace hd := ((hd.stay hb6).stay (below_new _ (.cells #[.bool xx, .slice ax nx cx] 25 (0, 0)))).stay (below_new _ (.cells #[.bool xp, .slice ap np cp] 25 (0, 0)))
    clear d0 d1
    obtain ⟨d0, d1⟩ := hd.cells
    have hx := (VI.new kx).stay (below_new _ (.cells #[.bool xp, .slice ap np cp] 25 (0, 0)))
    have hp := VI.new (kp.below (below_new _ (.cells #[.bool xx, .slice ax nx cx] 25 (0, 0))))
    simp only [World.size_alloc] at hp
    replace hbw := ((hbw.step hb6 (Nat.le_refl _)).step (below_new _ (.cells #[.bool xx, .slice ax nx cx] 25 (0, 0))) (Nat.le_refl _)).step (below_new _ (.cells #[.bool xp, .slice ap np cp] 25 (0, 0))) (Nat.le_refl _)
    obtain ⟨x0, x1⟩ := hx.cells
    obtain ⟨p0, p1⟩ := hp.cells
    clear hb6 kx kp
    go_wp2_with fail
    refine (div_h _ _ zb zd zy 0 _ hb.int hd.int (Int.ne_of_gt HP.out) Hzy.out HF.out.2.1).mono ?_
    rintro e w7 ⟨xy, ay, ny, cy, xq, aq, nq, cq, rfl, ky, kq, hb7⟩
    replace ha := ((ha.stay hb7).stay (below_new _ (.cells #[.bool xy, .slice ay ny cy] 25 (0, 0)))).stay (below_new _ (.cells #[.bool xq, .slice aq nq cq] 25 (0, 0)))
    clear a0 a1
    obtain ⟨a0, a1⟩ := ha.cells
    replace hb := ((hb.stay hb7).stay (below_new _ (.cells #[.bool xy, .slice ay ny cy] 25 (0, 0)))).stay (below_new _ (.cells #[.bool xq, .slice aq nq cq] 25 (0, 0)))
    clear b0 b1
    obtain ⟨b0, b1⟩ := hb.cells
    replace hd := ((hd.stay hb7).stay (below_new _ (.cells #[.bool xy, .slice ay ny cy] 25 (0, 0)))).stay (below_new _ (.cells #[.bool xq, .slice aq nq cq] 25 (0, 0)))
    clear d0 d1
    obtain ⟨d0, d1⟩ := hd.cells
    replace hx := ((hx.stay hb7).stay (below_new _ (.cells #[.bool xy, .slice ay ny cy] 25 (0, 0)))).stay (below_new _ (.cells #[.bool xq, .slice aq nq cq] 25 (0, 0)))
    clear x0 x1
    obtain ⟨x0, x1⟩ := hx.cells
    replace hp := ((hp.stay hb7).stay (below_new _ (.cells #[.bool xy, .slice ay ny cy] 25 (0, 0)))).stay (below_new _ (.cells #[.bool xq, .slice aq nq cq] 25 (0, 0)))
    clear p0 p1
    obtain ⟨p0, p1⟩ := hp.cells
    have hy := (VI.new ky).stay (below_new _ (.cells #[.bool xq, .slice aq nq cq] 25 (0, 0)))
    have hq := VI.new (kq.below (below_new _ (.cells #[.bool xy, .slice ay ny cy] 25 (0, 0))))
    simp only [World.size_alloc] at hq
    replace hbw := ((hbw.step hb7 (Nat.le_refl _)).step (below_new _ (.cells #[.bool xy, .slice ay ny cy] 25 (0, 0))) (Nat.le_refl _)).step (below_new _ (.cells #[.bool xq, .slice aq nq cq] 25 (0, 0))) (Nat.le_refl _)
    obtain ⟨y0, y1⟩ := hy.cells
    obtain ⟨q0, q1⟩ := hq.cells
    clear hb7 ky kq
    go_wp2_with fail
    refine (sgn_h _ zd 1 _ hd.int (Int.sign_eq_one_of_pos HP.out)).mono ?_
    rintro e w8 ⟨rfl, hb8⟩
    replace ha := ha.stay hb8
    clear a0 a1
    obtain ⟨a0, a1⟩ := ha.cells
    replace hb := hb.stay hb8
    clear b0 b1
    obtain ⟨b0, b1⟩ := hb.cells
    replace hd := hd.stay hb8
    clear d0 d1
    obtain ⟨d0, d1⟩ := hd.cells
    replace hx := hx.stay hb8
    clear x0 x1
    obtain ⟨x0, x1⟩ := hx.cells
    replace hp := hp.stay hb8
    clear p0 p1
    obtain ⟨p0, p1⟩ := hp.cells
    replace hy := hy.stay hb8
    clear y0 y1
    obtain ⟨y0, y1⟩ := hy.cells
    replace hq := hq.stay hb8
    clear q0 q1
    obtain ⟨q0, q1⟩ := hq.cells
    replace hbw := hbw.step hb8 (Nat.le_refl _)
    clear hb8
    go_wp2_with fail
    refine (sgn_h _ 0 0 _ hp.int rfl).mono ?_
    rintro e w9 ⟨rfl, hb9⟩
    replace ha := ha.stay hb9
    clear a0 a1
    obtain ⟨a0, a1⟩ := ha.cells
    replace hb := hb.stay hb9
    clear b0 b1
    obtain ⟨b0, b1⟩ := hb.cells
    replace hd := hd.stay hb9
    clear d0 d1
    obtain ⟨d0, d1⟩ := hd.cells
    replace hx := hx.stay hb9
    clear x0 x1
    obtain ⟨x0, x1⟩ := hx.cells
    replace hp := hp.stay hb9
    clear p0 p1
    obtain ⟨p0, p1⟩ := hp.cells
    replace hy := hy.stay hb9
    clear y0 y1
    obtain ⟨y0, y1⟩ := hy.cells
    replace hq := hq.stay hb9
    clear q0 q1
    obtain ⟨q0, q1⟩ := hq.cells
    replace hbw := hbw.step hb9 (Nat.le_refl _)
    clear hb9
    go_wp2_with fail
    refine (sgn_h _ 0 0 _ hq.int rfl).mono ?_
    rintro e w10 ⟨rfl, hb10⟩
    replace ha := ha.stay hb10
    clear a0 a1
    obtain ⟨a0, a1⟩ := ha.cells
    replace hb := hb.stay hb10
    clear b0 b1
    obtain ⟨b0, b1⟩ := hb.cells
    replace hd := hd.stay hb10
    clear d0 d1
    obtain ⟨d0, d1⟩ := hd.cells
    replace hx := hx.stay hb10
    clear x0 x1
    obtain ⟨x0, x1⟩ := hx.cells
    replace hp := hp.stay hb10
    clear p0 p1
    obtain ⟨p0, p1⟩ := hp.cells
    replace hy := hy.stay hb10
    clear y0 y1
    obtain ⟨y0, y1⟩ := hy.cells
    replace hq := hq.stay hb10
    clear q0 q1
    obtain ⟨q0, q1⟩ := hq.cells
    replace hbw := hbw.step hb10 (Nat.le_refl _)
    clear hb10
    go_wp2_with fail
    refine (gcd_z _ _ zx zy 1 _ hx.int hy.int (by rw [← Hzx.out, ← Hzy.out]; exact HF.out.2.2)).mono ?_
    rintro e w11 ⟨s1, a1, n1, c1, rfl, h1, hb11⟩
    go_wp2_with fail
    refine (text_a _ 1 _ h1).mono ?_
    rintro e w12 ⟨S, rfl, hS, hb12⟩
    have tS : (S.toList == [49]) = true := text_lit hS tx_1
    replace hbw := (hbw.step hb11 (Nat.le_refl _)).step hb12 (Nat.le_refl _)
    clear hS
    go_wp2
    go_ret
    exact ⟨rfl, hbw⟩
end Go.Proofs.Yteaejdcnpjhpoab
