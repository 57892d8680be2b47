/- The walk of suretylaw01.ArithFactors: it answers true at every text and every two machine numbers. -/
import Derived.Test.YteaejdcnpjhpoabPow
namespace Go.Proofs.Yteaejdcnpjhpoab
open Go.RowKit

theorem pow_i (i : Int) (n : Nat) (va : Value) (x z : Int) (w : World) (ha : AInt w va x) (hi : i = n) (hn : i ≤ 9223372036854775807) (hz' : x ^ n = z) :
    Calls Try.prog 22 #[va, .int .i64 i] w fun e w' => ∃ s a n c, e = .returned (.tuple #[.agg #[.bool s, .slice a n c], .int .i64 (ec z)]) ∧ AInt w' (.agg #[.bool s, .slice a n c]) (hz z) ∧ Below w.heap.size w w' := by
  subst hi
  exact pow_any n va x z w ha hn hz'

set_option maxRecDepth 20000 in
set_option maxHeartbeats 16000000 in
theorem factors_in (s : ByteArray) (n m : Nat) (w : World) (hs : s.size ≤ maxLen) (hn : (n : Int) ≤ 1100) (hm : (m : Int) ≤ 1100) :
    Calls Try.prog 8 #[.string s, .int .i64 n, .int .i64 m] w fun e w' => e = .returned (.bool true) ∧ Below w.heap.size w w' := by
  go_enter Try.func8, Try.ntmps8
  go_wp2_with fail
  refine (awake_any _).mono ?_
  rintro e w1 ⟨rfl, hbw⟩
  go_wp2_with fail
  refine (num_h s _ (by assumption)).mono ?_
  rintro e w2 ⟨zx, xx, ax, nx, cx, yx, dx, mx, fx, rfl, kx, -, hb2⟩
  have hx := (VI.new kx).stay (below_new _ (.cells #[.bool yx, .slice dx mx fx] 28 (0, 0)))
  have lx := hbw.size
  replace hbw := ((hbw.step hb2 (Nat.le_refl _)).step (below_new _ (.cells #[.bool xx, .slice ax nx cx] 25 (0, 0))) (Nat.le_refl _)).step (below_new _ (.cells #[.bool yx, .slice dx mx fx] 28 (0, 0))) (Nat.le_refl _)
  obtain ⟨x0, x1⟩ := hx.cells
  clear hb2 kx lx
  obtain ⟨za, Hza⟩ : ∃ z, Hid (zx ^ n = z) := ⟨_, rfl⟩
  have rza := ec_range za
  obtain ⟨zb, Hzb⟩ : ∃ z, Hid (zx ^ m = z) := ⟨_, rfl⟩
  have rzb := ec_range zb
  obtain ⟨zc, Hzc⟩ : ∃ z, Hid (zx ^ (n + m) = z) := ⟨_, rfl⟩
  have rzc := ec_range zc
  obtain ⟨zd, Hzd⟩ : ∃ z, Hid (hz za * hz zb = z) := ⟨_, rfl⟩
  have rzd := ec_range zd
  go_wp2_with fail
  refine (pow_i _ n _ zx za _ hx.int rfl (by omega) Hza.out).mono ?_
  rintro e w3 ⟨xa, aa, na, ca, rfl, ka, hb3⟩
  replace hx := (hx.stay hb3).stay (below_new _ (.cells #[.bool xa, .slice aa na ca] 25 (0, 0)))
  clear x0 x1
  obtain ⟨x0, x1⟩ := hx.cells
  have ha := VI.new ka
  replace hbw := (hbw.step hb3 (Nat.le_refl _)).step (below_new _ (.cells #[.bool xa, .slice aa na ca] 25 (0, 0))) (Nat.le_refl _)
  obtain ⟨a0, a1⟩ := ha.cells
  clear hb3 ka
  go_wp2_with fail
  refine (pow_i _ m _ zx zb _ hx.int rfl (by omega) Hzb.out).mono ?_
  rintro e w4 ⟨xb, ab, nb, cb, rfl, kb, hb4⟩
  replace hx := (hx.stay hb4).stay (below_new _ (.cells #[.bool xb, .slice ab nb cb] 25 (0, 0)))
  clear x0 x1
  obtain ⟨x0, x1⟩ := hx.cells
  replace ha := (ha.stay hb4).stay (below_new _ (.cells #[.bool xb, .slice ab nb cb] 25 (0, 0)))
  clear a0 a1
  obtain ⟨a0, a1⟩ := ha.cells
  have hb := VI.new kb
  replace hbw := (hbw.step hb4 (Nat.le_refl _)).step (below_new _ (.cells #[.bool xb, .slice ab nb cb] 25 (0, 0))) (Nat.le_refl _)
  obtain ⟨b0, b1⟩ := hb.cells
  clear hb4 kb
  go_wp2_with fail
  refine (pow_i _ (n + m) _ zx zc _ hx.int (by omega) (by omega) Hzc.out).mono ?_
  rintro e w5 ⟨xc, ac, nc, cc, rfl, kc, hb5⟩
  replace hx := (hx.stay hb5).stay (below_new _ (.cells #[.bool xc, .slice ac nc cc] 25 (0, 0)))
  clear x0 x1
  obtain ⟨x0, x1⟩ := hx.cells
  replace ha := (ha.stay hb5).stay (below_new _ (.cells #[.bool xc, .slice ac nc cc] 25 (0, 0)))
  clear a0 a1
  obtain ⟨a0, a1⟩ := ha.cells
  replace hb := (hb.stay hb5).stay (below_new _ (.cells #[.bool xc, .slice ac nc cc] 25 (0, 0)))
  clear b0 b1
  obtain ⟨b0, b1⟩ := hb.cells
  have hc := VI.new kc
  replace hbw := (hbw.step hb5 (Nat.le_refl _)).step (below_new _ (.cells #[.bool xc, .slice ac nc cc] 25 (0, 0))) (Nat.le_refl _)
  obtain ⟨c0, c1⟩ := hc.cells
  clear hb5 kc
  by_cases hE : ec za = 0
  · by_cases hF : ec zb = 0
    · have qE : (ec za != 0) = false := by rw [bne_eq_false_iff_eq]; exact hE
      have qF : (ec zb != 0) = false := by rw [bne_eq_false_iff_eq]; exact hF
      have HD : Hid (hz za * hz zb = zc) := by show _ = _; rw [hz_ec hE, hz_ec hF, ← Hza.out, ← Hzb.out, ← Hzc.out, Int.pow_add]
      clear hE hF
      go_wp2_with fail
      refine (mul_z _ _ (hz za) (hz zb) zc _ ha.int hb.int HD.out).mono ?_
      rintro e w6 ⟨xd, ad, nd, cd, rfl, kd, hb6⟩
      replace hx := (hx.stay hb6).stay (below_new _ (.cells #[.bool xd, .slice ad nd cd] 25 (0, 0)))
      clear x0 x1
      obtain ⟨x0, x1⟩ := hx.cells
      replace ha := (ha.stay hb6).stay (below_new _ (.cells #[.bool xd, .slice ad nd cd] 25 (0, 0)))
      clear a0 a1
      obtain ⟨a0, a1⟩ := ha.cells
      replace hb := (hb.stay hb6).stay (below_new _ (.cells #[.bool xd, .slice ad nd cd] 25 (0, 0)))
      clear b0 b1
      obtain ⟨b0, b1⟩ := hb.cells
      replace hc := (hc.stay hb6).stay (below_new _ (.cells #[.bool xd, .slice ad nd cd] 25 (0, 0)))
      clear c0 c1
      obtain ⟨c0, c1⟩ := hc.cells
      have hd := VI.new kd
      replace hbw := (hbw.step hb6 (Nat.le_refl _)).step (below_new _ (.cells #[.bool xd, .slice ad nd cd] 25 (0, 0))) (Nat.le_refl _)
      obtain ⟨d0, d1⟩ := hd.cells
      clear hb6 kd
      by_cases hG : ec zc = 0
      · have qG : (ec zc != 0) = false := by rw [bne_eq_false_iff_eq]; exact hG
        clear hG
        go_wp2_with fail
        refine (cmp_h _ _ (hz zc) (hz zc) 0 _ hc.int hd.int (by simp)).mono ?_
        rintro e w7 ⟨rfl, hb7⟩
        replace hx := hx.stay hb7
        clear x0 x1
        obtain ⟨x0, x1⟩ := hx.cells
        replace ha := ha.stay hb7
        clear a0 a1
        obtain ⟨a0, a1⟩ := ha.cells
        replace hb := hb.stay hb7
        clear b0 b1
        obtain ⟨b0, b1⟩ := hb.cells
        replace hc := hc.stay hb7
        clear c0 c1
        obtain ⟨c0, c1⟩ := hc.cells
        replace hd := hd.stay hb7
        clear d0 d1
        obtain ⟨d0, d1⟩ := hd.cells
        replace hbw := hbw.step hb7 (Nat.le_refl _)
        clear hb7
        go_wp2
        go_ret
        exact ⟨rfl, hbw⟩
      · have qG : (ec zc != 0) = true := by rw [bne_iff_ne]; exact hG
        clear hG
        go_wp2
        go_ret
        exact ⟨rfl, hbw⟩
    · have qE : (ec za != 0) = false := by rw [bne_eq_false_iff_eq]; exact hE
      have qF : (ec zb != 0) = true := by rw [bne_iff_ne]; exact hF
      clear hE hF
      go_wp2_with fail
      refine (mul_z _ _ (hz za) (hz zb) zd _ ha.int hb.int Hzd.out).mono ?_
      rintro e w6 ⟨xd, ad, nd, cd, rfl, kd, hb6⟩
      replace hx := (hx.stay hb6).stay (below_new _ (.cells #[.bool xd, .slice ad nd cd] 25 (0, 0)))
      clear x0 x1
      obtain ⟨x0, x1⟩ := hx.cells
      replace ha := (ha.stay hb6).stay (below_new _ (.cells #[.bool xd, .slice ad nd cd] 25 (0, 0)))
      clear a0 a1
      obtain ⟨a0, a1⟩ := ha.cells
      replace hb := (hb.stay hb6).stay (below_new _ (.cells #[.bool xd, .slice ad nd cd] 25 (0, 0)))
      clear b0 b1
      obtain ⟨b0, b1⟩ := hb.cells
      replace hc := (hc.stay hb6).stay (below_new _ (.cells #[.bool xd, .slice ad nd cd] 25 (0, 0)))
      clear c0 c1
      obtain ⟨c0, c1⟩ := hc.cells
      have hd := VI.new kd
      replace hbw := (hbw.step hb6 (Nat.le_refl _)).step (below_new _ (.cells #[.bool xd, .slice ad nd cd] 25 (0, 0))) (Nat.le_refl _)
      obtain ⟨d0, d1⟩ := hd.cells
      clear hb6 kd
      go_wp2
      go_ret
      exact ⟨rfl, hbw⟩
  · have qE : (ec za != 0) = true := by rw [bne_iff_ne]; exact hE
    clear hE
    go_wp2_with fail
    refine (mul_z _ _ (hz za) (hz zb) zd _ ha.int hb.int Hzd.out).mono ?_
    rintro e w6 ⟨xd, ad, nd, cd, rfl, kd, hb6⟩
    replace hx := (hx.stay hb6).stay (below_new _ (.cells #[.bool xd, .slice ad nd cd] 25 (0, 0)))
    clear x0 x1
    obtain ⟨x0, x1⟩ := hx.cells
    replace ha := (ha.stay hb6).stay (below_new _ (.cells #[.bool xd, .slice ad nd cd] 25 (0, 0)))
    clear a0 a1
    obtain ⟨a0, a1⟩ := ha.cells
    replace hb := (hb.stay hb6).stay (below_new _ (.cells #[.bool xd, .slice ad nd cd] 25 (0, 0)))
    clear b0 b1
    obtain ⟨b0, b1⟩ := hb.cells
    replace hc := (hc.stay hb6).stay (below_new _ (.cells #[.bool xd, .slice ad nd cd] 25 (0, 0)))
    clear c0 c1
    obtain ⟨c0, c1⟩ := hc.cells
    have hd := VI.new kd
    replace hbw := (hbw.step hb6 (Nat.le_refl _)).step (below_new _ (.cells #[.bool xd, .slice ad nd cd] 25 (0, 0))) (Nat.le_refl _)
    obtain ⟨d0, d1⟩ := hd.cells
    clear hb6 kd
    go_wp2
    go_ret
    exact ⟨rfl, hbw⟩

set_option maxRecDepth 20000 in
set_option maxHeartbeats 4000000 in
theorem factors_out (s : ByteArray) (n m : Int) (w : World) (h : n < 0 ∨ (¬ n < 0 ∧ m < 0) ∨ (¬ n < 0 ∧ ¬ m < 0 ∧ 1100 < n) ∨ (¬ n < 0 ∧ ¬ m < 0 ∧ ¬ 1100 < n ∧ 1100 < m)) :
    Calls Try.prog 8 #[.string s, .int .i64 n, .int .i64 m] w fun e w' => e = .returned (.bool true) ∧ Below w.heap.size w w' := by
  rcases h with h | ⟨h1, h⟩ | ⟨h1, h2, h⟩ | ⟨h1, h2, h3, h⟩
  all_goals
    go_enter Try.func8, Try.ntmps8
    go_wp2_with fail
    refine (awake_any _).mono ?_
    rintro e w1 ⟨rfl, hbw⟩
    go_wp2
    go_ret
    exact ⟨rfl, hbw⟩

theorem arithFactors_any (s : ByteArray) (n m : Int) (w : World) (hs : s.size ≤ maxLen) (_ : (Lit.int .i64 n).wf = true) (_ : (Lit.int .i64 m).wf = true) :
    Calls Try.prog 8 #[.string s, .int .i64 n, .int .i64 m] w fun e w' => e = .returned (.bool true) ∧ Below w.heap.size w w' := by
  by_cases h1 : n < 0
  · exact factors_out s n m w (Or.inl h1)
  by_cases h2 : m < 0
  · exact factors_out s n m w (Or.inr (Or.inl ⟨h1, h2⟩))
  by_cases h3 : 1100 < n
  · exact factors_out s n m w (Or.inr (Or.inr (Or.inl ⟨h1, h2, h3⟩)))
  by_cases h4 : 1100 < m
  · exact factors_out s n m w (Or.inr (Or.inr (Or.inr ⟨h1, h2, h3, h4⟩)))
  obtain ⟨a, rfl⟩ := Int.eq_ofNat_of_zero_le (Int.not_lt.1 h1)
  obtain ⟨b, rfl⟩ := Int.eq_ofNat_of_zero_le (Int.not_lt.1 h2)
  exact factors_in s a b w hs (Int.not_lt.1 h3) (Int.not_lt.1 h4)
end Go.Proofs.Yteaejdcnpjhpoab
