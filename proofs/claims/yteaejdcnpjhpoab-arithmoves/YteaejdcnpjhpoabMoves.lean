/- The walk of suretylaw01.ArithMoves: it answers true at every three texts. -/
import Derived.Test.YteaejdcnpjhpoabVars
namespace Go.Proofs.Yteaejdcnpjhpoab
open Go.RowKit

theorem sign_range (x y : Int) : -1 ≤ x.sign * y.sign ∧ x.sign * y.sign ≤ 1 := by
  rw [← Int.sign_mul]
  rcases Int.sign_trichotomy (x * y) with h | h | h <;> rw [h] <;> decide

theorem wrap_small {x : Int} (h : -1 ≤ x ∧ x ≤ 1) : IntKind.i64.wrap x = x := by
  have e : x = -1 ∨ x = 0 ∨ x = 1 := by omega
  rcases e with rfl | rfl | rfl <;> decide
theorem below_dN {B : Nat} {a w : World} (h : Below B a w) (n : Nat) : Below B a (w.drewN n) := h.trans ⟨rfl, rfl, rfl, Nat.le_refl _, fun _ _ => rfl⟩

theorem keep3 {t : TypeId} {W0 w' : World} {b1 b2 b3 : Nat} {p1 q1 p2 q2 p3 q3 : Value} (h1 : Blk t W0 b1 #[p1, q1]) (h2 : Blk t W0 b2 #[p2, q2]) (h3 : Blk t W0 b3 #[p3, q3]) (h : Below W0.heap.size W0 w') :
    Below W0.heap.size W0 w' ∧ w'.cell? ⟨b1, 0, none⟩ = some p1 ∧ w'.cell? ⟨b1, 1, none⟩ = some q1 ∧ w'.cell? ⟨b2, 0, none⟩ = some p2 ∧ w'.cell? ⟨b2, 1, none⟩ = some q2 ∧ w'.cell? ⟨b3, 0, none⟩ = some p3 ∧ w'.cell? ⟨b3, 1, none⟩ = some q3 :=
  ⟨h, (h1.stay h).two.1, (h1.stay h).two.2.1, (h2.stay h).two.1, (h2.stay h).two.2.1, (h3.stay h).two.1, (h3.stay h).two.2.1⟩

set_option maxHeartbeats 8000000 in
theorem arithMoves_any (s t u : ByteArray) (w : World) (hs : s.size ≤ maxLen) (ht : t.size ≤ maxLen) (hu : u.size ≤ maxLen) :
    Calls Try.prog 6 #[.string s, .string t, .string u] w fun e w' => e = .returned (.bool true) ∧ Below w.heap.size w w' := by
  go_enter Try.func6, Try.ntmps6
  go_wp2_with fail
  refine (awake_any _).mono ?_
  rintro e w1 ⟨rfl, hbw⟩
  go_wp2_with fail
  refine (num_h s _ (by assumption)).mono ?_
  rintro e w2 ⟨za, xa, aa, na, ca, ya, da, ma, fa, rfl, ka, -, hb2⟩
  have ha := (VI.new ka).stay (below_new _ (.cells #[.bool ya, .slice da ma fa] 28 (0, 0)))
  have la := hbw.size
  replace hbw := ((hbw.step hb2 (Nat.le_refl _)).step (below_new _ (.cells #[.bool xa, .slice aa na ca] 25 (0, 0))) (Nat.le_refl _)).step (below_new _ (.cells #[.bool ya, .slice da ma fa] 28 (0, 0))) (Nat.le_refl _)
  obtain ⟨a0, a1⟩ := ha.cells
  clear hb2 ka la
  go_wp2_with fail
  refine (num_h t _ (by assumption)).mono ?_
  rintro e w3 ⟨zb, xb, ab, nb, cb, yb, db, mb, fb, rfl, kb, -, hb3⟩
  replace ha := ((ha.stay hb3).stay (below_new _ (.cells #[.bool xb, .slice ab nb cb] 25 (0, 0)))).stay (below_new _ (.cells #[.bool yb, .slice db mb fb] 28 (0, 0)))
  clear a0 a1
  obtain ⟨a0, a1⟩ := ha.cells
  have hb := (VI.new kb).stay (below_new _ (.cells #[.bool yb, .slice db mb fb] 28 (0, 0)))
  have lb := hbw.size
  replace hbw := ((hbw.step hb3 (Nat.le_refl _)).step (below_new _ (.cells #[.bool xb, .slice ab nb cb] 25 (0, 0))) (Nat.le_refl _)).step (below_new _ (.cells #[.bool yb, .slice db mb fb] 28 (0, 0))) (Nat.le_refl _)
  obtain ⟨b0, b1⟩ := hb.cells
  clear hb3 kb lb
  go_wp2_with fail
  refine (num_h u _ (by assumption)).mono ?_
  rintro e w4 ⟨zc, xc, ac, nc, cc, yc, dc, mc, fc, rfl, kc, -, hb4⟩
  replace ha := ((ha.stay hb4).stay (below_new _ (.cells #[.bool xc, .slice ac nc cc] 25 (0, 0)))).stay (below_new _ (.cells #[.bool yc, .slice dc mc fc] 28 (0, 0)))
  clear a0 a1
  obtain ⟨a0, a1⟩ := ha.cells
  replace hb := ((hb.stay hb4).stay (below_new _ (.cells #[.bool xc, .slice ac nc cc] 25 (0, 0)))).stay (below_new _ (.cells #[.bool yc, .slice dc mc fc] 28 (0, 0)))
  clear b0 b1
  obtain ⟨b0, b1⟩ := hb.cells
  have hc := (VI.new kc).stay (below_new _ (.cells #[.bool yc, .slice dc mc fc] 28 (0, 0)))
  have lc := hbw.size
  replace hbw := ((hbw.step hb4 (Nat.le_refl _)).step (below_new _ (.cells #[.bool xc, .slice ac nc cc] 25 (0, 0))) (Nat.le_refl _)).step (below_new _ (.cells #[.bool yc, .slice dc mc fc] 28 (0, 0))) (Nat.le_refl _)
  obtain ⟨c0, c1⟩ := hc.cells
  clear hb4 kc lc
  go_wp2_with fail
  refine (cmp_h _ _ za zb (za - zb).sign _ ha.int hb.int rfl).mono ?_
  rintro e w5 ⟨rfl, hb5⟩
  replace ha := ha.stay hb5
  clear a0 a1
  obtain ⟨a0, a1⟩ := ha.cells
  replace hb := hb.stay hb5
  clear b0 b1
  obtain ⟨b0, b1⟩ := hb.cells
  replace hc := hc.stay hb5
  clear c0 c1
  obtain ⟨c0, c1⟩ := hc.cells
  replace hbw := hbw.step hb5 (Nat.le_refl _)
  clear hb5
  go_wp2_with fail
  refine (add_h _ _ za zc _ ha.int hc.int).mono ?_
  rintro e w6 ⟨xx, ax, nx, cx, rfl, kx, hb6⟩
  have oax := Nat.ne_of_gt (ha.stay hb6).lt
  replace ha := (ha.stay hb6).stay (below_new _ (.cells #[.bool xx, .slice ax nx cx] 25 (0, 0)))
  clear a0 a1
  obtain ⟨a0, a1⟩ := ha.cells
  have obx := Nat.ne_of_gt (hb.stay hb6).lt
  replace hb := (hb.stay hb6).stay (below_new _ (.cells #[.bool xx, .slice ax nx cx] 25 (0, 0)))
  clear b0 b1
  obtain ⟨b0, b1⟩ := hb.cells
  have ocx := Nat.ne_of_gt (hc.stay hb6).lt
  replace hc := (hc.stay hb6).stay (below_new _ (.cells #[.bool xx, .slice ax nx cx] 25 (0, 0)))
  clear c0 c1
  obtain ⟨c0, c1⟩ := hc.cells
  have lsx := (hbw.step hb6 (Nat.le_refl _)).size
  have hx := VI.new kx
  replace hbw := (hbw.step hb6 (Nat.le_refl _)).step (below_new _ (.cells #[.bool xx, .slice ax nx cx] 25 (0, 0))) (Nat.le_refl _)
  obtain ⟨x0, x1⟩ := hx.cells
  clear hb6 kx
  go_wp2_with fail
  refine (add_h _ _ zb zc _ hb.int hc.int).mono ?_
  rintro e w7 ⟨xy, ay, ny, cy, rfl, ky, hb7⟩
  have oay := Nat.ne_of_gt (ha.stay hb7).lt
  replace ha := (ha.stay hb7).stay (below_new _ (.cells #[.bool xy, .slice ay ny cy] 25 (0, 0)))
  clear a0 a1
  obtain ⟨a0, a1⟩ := ha.cells
  have oby := Nat.ne_of_gt (hb.stay hb7).lt
  replace hb := (hb.stay hb7).stay (below_new _ (.cells #[.bool xy, .slice ay ny cy] 25 (0, 0)))
  clear b0 b1
  obtain ⟨b0, b1⟩ := hb.cells
  have ocy := Nat.ne_of_gt (hc.stay hb7).lt
  replace hc := (hc.stay hb7).stay (below_new _ (.cells #[.bool xy, .slice ay ny cy] 25 (0, 0)))
  clear c0 c1
  obtain ⟨c0, c1⟩ := hc.cells
  have oxy := Nat.ne_of_gt (hx.stay hb7).lt
  replace hx := (hx.stay hb7).stay (below_new _ (.cells #[.bool xy, .slice ay ny cy] 25 (0, 0)))
  clear x0 x1
  obtain ⟨x0, x1⟩ := hx.cells
  have lsy := (hbw.step hb7 (Nat.le_refl _)).size
  have hy := VI.new ky
  replace hbw := (hbw.step hb7 (Nat.le_refl _)).step (below_new _ (.cells #[.bool xy, .slice ay ny cy] 25 (0, 0))) (Nat.le_refl _)
  obtain ⟨y0, y1⟩ := hy.cells
  clear hb7 ky
  by_cases hE : ec (za + zc) = 0
  · have qE : (ec (za + zc) == 0) = true := by rw [beq_iff_eq]; exact hE
    by_cases hF : ec (zb + zc) = 0
    · have qF : (ec (zb + zc) == 0) = true := by rw [beq_iff_eq]; exact hF
      have hR : (hz (za + zc) - hz (zb + zc)).sign = (za - zb).sign := by rw [hz_ec hE, hz_ec hF]; congr 1; omega
      clear hE hF
      go_wp2_with fail
      refine (cmp_h _ _ (hz (za + zc)) (hz (zb + zc)) (za - zb).sign _ hx.int hy.int hR).mono ?_
      rintro e w8 ⟨rfl, hb8⟩
      replace ha := ha.stay hb8
      clear a0 a1
      obtain ⟨a0, a1⟩ := ha.cells
      replace hb := hb.stay hb8
      clear b0 b1
      obtain ⟨b0, b1⟩ := hb.cells
      replace hc := hc.stay hb8
      clear c0 c1
      obtain ⟨c0, c1⟩ := hc.cells
      replace hx := hx.stay hb8
      clear x0 x1
      obtain ⟨x0, x1⟩ := hx.cells
      replace hy := hy.stay hb8
      clear y0 y1
      obtain ⟨y0, y1⟩ := hy.cells
      replace hbw := hbw.step hb8 (Nat.le_refl _)
      clear hb8
      go_wp2_with fail
      refine (mul_h _ _ za zc _ ha.int hc.int).mono ?_
      rintro e w9 ⟨px, qx, rx, tx, rfl, kx, hb9⟩
      replace ha := ha.stay hb9
      clear a0 a1
      obtain ⟨a0, a1⟩ := ha.cells
      replace hb := hb.stay hb9
      clear b0 b1
      obtain ⟨b0, b1⟩ := hb.cells
      replace hc := hc.stay hb9
      clear c0 c1
      obtain ⟨c0, c1⟩ := hc.cells
      replace hx := hx.stay hb9
      clear x0 x1
      obtain ⟨x0, x1⟩ := hx.cells
      replace hy := hy.stay hb9
      clear y0 y1
      obtain ⟨y0, y1⟩ := hy.cells
      obtain ⟨-, -, xf0, xf1⟩ := hx.1.two
      replace hbw := below_store2 (hbw.step hb9 (Nat.le_refl _)) lsx (.bool px) (.slice qx rx tx)
      clear hb9
      replace ha := ha.other hx oax px qx rx tx
      replace hb := hb.other hx obx px qx rx tx
      replace hc := hc.other hx ocx px qx rx tx
      replace hy := hy.other hx oxy.symm px qx rx tx
      replace hx := hx.over kx
      obtain ⟨a2, a3⟩ := ha.cells
      obtain ⟨b2, b3⟩ := hb.cells
      obtain ⟨c2, c3⟩ := hc.cells
      obtain ⟨x2, x3⟩ := hx.cells
      obtain ⟨y2, y3⟩ := hy.cells
      go_wp2_with fail
      clear a0 a1
      obtain ⟨a0, a1⟩ := ha.cells
      clear a2 a3
      clear b0 b1
      obtain ⟨b0, b1⟩ := hb.cells
      clear b2 b3
      clear c0 c1
      obtain ⟨c0, c1⟩ := hc.cells
      clear c2 c3
      clear x0 x1
      obtain ⟨x0, x1⟩ := hx.cells
      clear x2 x3
      clear y0 y1
      obtain ⟨y0, y1⟩ := hy.cells
      clear y2 y3
      clear ha a0 a1 xf0 xf1
      refine (mul_h _ _ zb zc _ hb.int hc.int).mono ?_
      rintro e w10 ⟨py, qy, ry, ty, rfl, ky, hb10⟩
      replace hb := hb.stay hb10
      clear b0 b1
      obtain ⟨b0, b1⟩ := hb.cells
      replace hc := hc.stay hb10
      clear c0 c1
      obtain ⟨c0, c1⟩ := hc.cells
      replace hx := hx.stay hb10
      clear x0 x1
      obtain ⟨x0, x1⟩ := hx.cells
      replace hy := hy.stay hb10
      clear y0 y1
      obtain ⟨y0, y1⟩ := hy.cells
      obtain ⟨-, -, yf0, yf1⟩ := hy.1.two
      replace hbw := below_store2 (hbw.step hb10 (Nat.le_refl _)) lsy (.bool py) (.slice qy ry ty)
      clear hb10
      replace hb := hb.other hy oby py qy ry ty
      replace hc := hc.other hy ocy py qy ry ty
      replace hx := hx.other hy oxy py qy ry ty
      replace hy := hy.over ky
      obtain ⟨b2, b3⟩ := hb.cells
      obtain ⟨c2, c3⟩ := hc.cells
      obtain ⟨x2, x3⟩ := hx.cells
      obtain ⟨y2, y3⟩ := hy.cells
      go_wp2
      clear b0 b1
      obtain ⟨b0, b1⟩ := hb.cells
      clear b2 b3
      clear c0 c1
      obtain ⟨c0, c1⟩ := hc.cells
      clear c2 c3
      clear x0 x1
      obtain ⟨x0, x1⟩ := hx.cells
      clear x2 x3
      clear y0 y1
      obtain ⟨y0, y1⟩ := hy.cells
      clear y2 y3
      clear hb b0 b1 yf0 yf1
      by_cases hG : ec (za * zc) = 0
      · by_cases hH : ec (zb * zc) = 0
        · have qG : (ec (za * zc) != 0) = false := by rw [bne_eq_false_iff_eq]; exact hG
          have qH : (ec (zb * zc) != 0) = false := by rw [bne_eq_false_iff_eq]; exact hH
          have hR2 : (hz (za * zc) - hz (zb * zc)).sign = (za - zb).sign * zc.sign := by rw [hz_ec hG, hz_ec hH, ← Int.sub_mul, Int.sign_mul]
          have r2 := sign_range (za - zb) zc
          have r3 : IntKind.i64.wrap ((za - zb).sign * zc.sign) = (za - zb).sign * zc.sign := wrap_small r2
          clear hG hH
          obtain ⟨W0, hW0⟩ : ∃ W0, W0 = ((w10.setCell ⟨w7.heap.size, 0, none⟩ (.bool py)).setCell ⟨w7.heap.size, 1, none⟩ (.slice qy ry ty)) := ⟨_, rfl⟩
          rw [← hW0] at hx hy hc x0 x1 y0 y1 c0 c1 hbw ⊢
          clear hW0
          go_region_held3 (fun w' => Below W0.heap.size W0 w' ∧ w'.cell? ⟨w6.heap.size, 0, none⟩ = some (.bool px) ∧ w'.cell? ⟨w6.heap.size, 1, none⟩ = some (.slice qx rx tx) ∧ w'.cell? ⟨w7.heap.size, 0, none⟩ = some (.bool py) ∧ w'.cell? ⟨w7.heap.size, 1, none⟩ = some (.slice qy ry ty) ∧ w'.cell? ⟨w4.heap.size, 0, none⟩ = some (.bool xc) ∧ w'.cell? ⟨w4.heap.size, 1, none⟩ = some (.slice ac nc cc))
            ((refine keep3 hx.1 hy.1 hc.1 ?_; repeat' (first | assumption | exact Below.refl _ _ | refine Below.drew ?_)))
            (first
              | (go_at_call 13; refine (cmp_h _ _ (hz (za * zc)) (hz (zb * zc)) ((za - zb).sign * zc.sign) _ (hx.int.below (And.left (by assumption))) (hy.int.below (And.left (by assumption))) hR2).mono ?_; rintro e v1 ⟨rfl, hv1⟩; have hB1 := keepl (by assumption) hv1)
              | (go_at_call 16; refine (sign_h _ zc _ (hc.int.below (And.left (by assumption)))).mono ?_; rintro e v2 ⟨rfl, hv2⟩; have hB2 := keepl (by assumption) hv2))
          all_goals go_wp2
          all_goals go_ret
          all_goals exact ⟨rfl, hbw.step (by assumption) (Nat.le_refl _)⟩
        · have qH : (ec (zb * zc) != 0) = true := by rw [bne_iff_ne]; exact hH
          have qG : (ec (za * zc) != 0) = false := by rw [bne_eq_false_iff_eq]; exact hG
          clear hG hH
          go_quiet (fail)
          all_goals go_wp2
          all_goals go_ret
          all_goals exact ⟨rfl, below_dN hbw _⟩
      · have qG : (ec (za * zc) != 0) = true := by rw [bne_iff_ne]; exact hG
        clear hG
        go_quiet (fail)
        all_goals go_wp2
        all_goals go_ret
        all_goals exact ⟨rfl, below_dN hbw _⟩
    · have qF : (ec (zb + zc) == 0) = false := by rw [beq_eq_false_iff_ne]; exact hF
      clear hE hF
      go_wp2_with fail
      refine (mul_h _ _ za zc _ ha.int hc.int).mono ?_
      rintro e w8 ⟨px, qx, rx, tx, rfl, kx, hb8⟩
      replace ha := ha.stay hb8
      clear a0 a1
      obtain ⟨a0, a1⟩ := ha.cells
      replace hb := hb.stay hb8
      clear b0 b1
      obtain ⟨b0, b1⟩ := hb.cells
      replace hc := hc.stay hb8
      clear c0 c1
      obtain ⟨c0, c1⟩ := hc.cells
      replace hx := hx.stay hb8
      clear x0 x1
      obtain ⟨x0, x1⟩ := hx.cells
      replace hy := hy.stay hb8
      clear y0 y1
      obtain ⟨y0, y1⟩ := hy.cells
      obtain ⟨-, -, xf0, xf1⟩ := hx.1.two
      replace hbw := below_store2 (hbw.step hb8 (Nat.le_refl _)) lsx (.bool px) (.slice qx rx tx)
      clear hb8
      replace ha := ha.other hx oax px qx rx tx
      replace hb := hb.other hx obx px qx rx tx
      replace hc := hc.other hx ocx px qx rx tx
      replace hy := hy.other hx oxy.symm px qx rx tx
      replace hx := hx.over kx
      obtain ⟨a2, a3⟩ := ha.cells
      obtain ⟨b2, b3⟩ := hb.cells
      obtain ⟨c2, c3⟩ := hc.cells
      obtain ⟨x2, x3⟩ := hx.cells
      obtain ⟨y2, y3⟩ := hy.cells
      go_wp2_with fail
      clear a0 a1
      obtain ⟨a0, a1⟩ := ha.cells
      clear a2 a3
      clear b0 b1
      obtain ⟨b0, b1⟩ := hb.cells
      clear b2 b3
      clear c0 c1
      obtain ⟨c0, c1⟩ := hc.cells
      clear c2 c3
      clear x0 x1
      obtain ⟨x0, x1⟩ := hx.cells
      clear x2 x3
      clear y0 y1
      obtain ⟨y0, y1⟩ := hy.cells
      clear y2 y3
      clear ha a0 a1 xf0 xf1
      refine (mul_h _ _ zb zc _ hb.int hc.int).mono ?_
      rintro e w9 ⟨py, qy, ry, ty, rfl, ky, hb9⟩
      replace hb := hb.stay hb9
      clear b0 b1
      obtain ⟨b0, b1⟩ := hb.cells
      replace hc := hc.stay hb9
      clear c0 c1
      obtain ⟨c0, c1⟩ := hc.cells
      replace hx := hx.stay hb9
      clear x0 x1
      obtain ⟨x0, x1⟩ := hx.cells
      replace hy := hy.stay hb9
      clear y0 y1
      obtain ⟨y0, y1⟩ := hy.cells
      obtain ⟨-, -, yf0, yf1⟩ := hy.1.two
      replace hbw := below_store2 (hbw.step hb9 (Nat.le_refl _)) lsy (.bool py) (.slice qy ry ty)
      clear hb9
      replace hb := hb.other hy oby py qy ry ty
      replace hc := hc.other hy ocy py qy ry ty
      replace hx := hx.other hy oxy py qy ry ty
      replace hy := hy.over ky
      obtain ⟨b2, b3⟩ := hb.cells
      obtain ⟨c2, c3⟩ := hc.cells
      obtain ⟨x2, x3⟩ := hx.cells
      obtain ⟨y2, y3⟩ := hy.cells
      go_wp2
      clear b0 b1
      obtain ⟨b0, b1⟩ := hb.cells
      clear b2 b3
      clear c0 c1
      obtain ⟨c0, c1⟩ := hc.cells
      clear c2 c3
      clear x0 x1
      obtain ⟨x0, x1⟩ := hx.cells
      clear x2 x3
      clear y0 y1
      obtain ⟨y0, y1⟩ := hy.cells
      clear y2 y3
      clear hb b0 b1 yf0 yf1
      by_cases hG : ec (za * zc) = 0
      · by_cases hH : ec (zb * zc) = 0
        · have qG : (ec (za * zc) != 0) = false := by rw [bne_eq_false_iff_eq]; exact hG
          have qH : (ec (zb * zc) != 0) = false := by rw [bne_eq_false_iff_eq]; exact hH
          have hR2 : (hz (za * zc) - hz (zb * zc)).sign = (za - zb).sign * zc.sign := by rw [hz_ec hG, hz_ec hH, ← Int.sub_mul, Int.sign_mul]
          have r2 := sign_range (za - zb) zc
          have r3 : IntKind.i64.wrap ((za - zb).sign * zc.sign) = (za - zb).sign * zc.sign := wrap_small r2
          clear hG hH
          obtain ⟨W0, hW0⟩ : ∃ W0, W0 = ((w9.setCell ⟨w7.heap.size, 0, none⟩ (.bool py)).setCell ⟨w7.heap.size, 1, none⟩ (.slice qy ry ty)) := ⟨_, rfl⟩
          rw [← hW0] at hx hy hc x0 x1 y0 y1 c0 c1 hbw ⊢
          clear hW0
          go_region_held3 (fun w' => Below W0.heap.size W0 w' ∧ w'.cell? ⟨w6.heap.size, 0, none⟩ = some (.bool px) ∧ w'.cell? ⟨w6.heap.size, 1, none⟩ = some (.slice qx rx tx) ∧ w'.cell? ⟨w7.heap.size, 0, none⟩ = some (.bool py) ∧ w'.cell? ⟨w7.heap.size, 1, none⟩ = some (.slice qy ry ty) ∧ w'.cell? ⟨w4.heap.size, 0, none⟩ = some (.bool xc) ∧ w'.cell? ⟨w4.heap.size, 1, none⟩ = some (.slice ac nc cc))
            ((refine keep3 hx.1 hy.1 hc.1 ?_; repeat' (first | assumption | exact Below.refl _ _ | refine Below.drew ?_)))
            (first
              | (go_at_call 13; refine (cmp_h _ _ (hz (za * zc)) (hz (zb * zc)) ((za - zb).sign * zc.sign) _ (hx.int.below (And.left (by assumption))) (hy.int.below (And.left (by assumption))) hR2).mono ?_; rintro e v1 ⟨rfl, hv1⟩; have hB1 := keepl (by assumption) hv1)
              | (go_at_call 16; refine (sign_h _ zc _ (hc.int.below (And.left (by assumption)))).mono ?_; rintro e v2 ⟨rfl, hv2⟩; have hB2 := keepl (by assumption) hv2))
          all_goals go_wp2
          all_goals go_ret
          all_goals exact ⟨rfl, hbw.step (by assumption) (Nat.le_refl _)⟩
        · have qH : (ec (zb * zc) != 0) = true := by rw [bne_iff_ne]; exact hH
          have qG : (ec (za * zc) != 0) = false := by rw [bne_eq_false_iff_eq]; exact hG
          clear hG hH
          go_quiet (fail)
          all_goals go_wp2
          all_goals go_ret
          all_goals exact ⟨rfl, below_dN hbw _⟩
      · have qG : (ec (za * zc) != 0) = true := by rw [bne_iff_ne]; exact hG
        clear hG
        go_quiet (fail)
        all_goals go_wp2
        all_goals go_ret
        all_goals exact ⟨rfl, below_dN hbw _⟩
  · have qE : (ec (za + zc) == 0) = false := by rw [beq_eq_false_iff_ne]; exact hE
    clear hE
    go_wp2_with fail
    refine (mul_h _ _ za zc _ ha.int hc.int).mono ?_
    rintro e w8 ⟨px, qx, rx, tx, rfl, kx, hb8⟩
    replace ha := ha.stay hb8
    clear a0 a1
    obtain ⟨a0, a1⟩ := ha.cells
    replace hb := hb.stay hb8
    clear b0 b1
    obtain ⟨b0, b1⟩ := hb.cells
    replace hc := hc.stay hb8
    clear c0 c1
    obtain ⟨c0, c1⟩ := hc.cells
    replace hx := hx.stay hb8
    clear x0 x1
    obtain ⟨x0, x1⟩ := hx.cells
    replace hy := hy.stay hb8
    clear y0 y1
    obtain ⟨y0, y1⟩ := hy.cells
    obtain ⟨-, -, xf0, xf1⟩ := hx.1.two
    replace hbw := below_store2 (hbw.step hb8 (Nat.le_refl _)) lsx (.bool px) (.slice qx rx tx)
    clear hb8
    replace ha := ha.other hx oax px qx rx tx
    replace hb := hb.other hx obx px qx rx tx
    replace hc := hc.other hx ocx px qx rx tx
    replace hy := hy.other hx oxy.symm px qx rx tx
    replace hx := hx.over kx
    obtain ⟨a2, a3⟩ := ha.cells
    obtain ⟨b2, b3⟩ := hb.cells
    obtain ⟨c2, c3⟩ := hc.cells
    obtain ⟨x2, x3⟩ := hx.cells
    obtain ⟨y2, y3⟩ := hy.cells
    go_wp2_with fail
    clear a0 a1
    obtain ⟨a0, a1⟩ := ha.cells
    clear a2 a3
    clear b0 b1
    obtain ⟨b0, b1⟩ := hb.cells
    clear b2 b3
    clear c0 c1
    obtain ⟨c0, c1⟩ := hc.cells
    clear c2 c3
    clear x0 x1
    obtain ⟨x0, x1⟩ := hx.cells
    clear x2 x3
    clear y0 y1
    obtain ⟨y0, y1⟩ := hy.cells
    clear y2 y3
    clear ha a0 a1 xf0 xf1
    refine (mul_h _ _ zb zc _ hb.int hc.int).mono ?_
    rintro e w9 ⟨py, qy, ry, ty, rfl, ky, hb9⟩
    replace hb := hb.stay hb9
    clear b0 b1
    obtain ⟨b0, b1⟩ := hb.cells
    replace hc := hc.stay hb9
    clear c0 c1
    obtain ⟨c0, c1⟩ := hc.cells
    replace hx := hx.stay hb9
    clear x0 x1
    obtain ⟨x0, x1⟩ := hx.cells
    replace hy := hy.stay hb9
    clear y0 y1
    obtain ⟨y0, y1⟩ := hy.cells
    obtain ⟨-, -, yf0, yf1⟩ := hy.1.two
    replace hbw := below_store2 (hbw.step hb9 (Nat.le_refl _)) lsy (.bool py) (.slice qy ry ty)
    clear hb9
    replace hb := hb.other hy oby py qy ry ty
    replace hc := hc.other hy ocy py qy ry ty
    replace hx := hx.other hy oxy py qy ry ty
    replace hy := hy.over ky
    obtain ⟨b2, b3⟩ := hb.cells
    obtain ⟨c2, c3⟩ := hc.cells
    obtain ⟨x2, x3⟩ := hx.cells
    obtain ⟨y2, y3⟩ := hy.cells
    go_wp2
    clear b0 b1
    obtain ⟨b0, b1⟩ := hb.cells
    clear b2 b3
    clear c0 c1
    obtain ⟨c0, c1⟩ := hc.cells
    clear c2 c3
    clear x0 x1
    obtain ⟨x0, x1⟩ := hx.cells
    clear x2 x3
    clear y0 y1
    obtain ⟨y0, y1⟩ := hy.cells
    clear y2 y3
    clear hb b0 b1 yf0 yf1
    by_cases hG : ec (za * zc) = 0
    · by_cases hH : ec (zb * zc) = 0
      · have qG : (ec (za * zc) != 0) = false := by rw [bne_eq_false_iff_eq]; exact hG
        have qH : (ec (zb * zc) != 0) = false := by rw [bne_eq_false_iff_eq]; exact hH
        have hR2 : (hz (za * zc) - hz (zb * zc)).sign = (za - zb).sign * zc.sign := by rw [hz_ec hG, hz_ec hH, ← Int.sub_mul, Int.sign_mul]
        have r2 := sign_range (za - zb) zc
        have r3 : IntKind.i64.wrap ((za - zb).sign * zc.sign) = (za - zb).sign * zc.sign := wrap_small r2
        clear hG hH
        obtain ⟨W0, hW0⟩ : ∃ W0, W0 = ((w9.setCell ⟨w7.heap.size, 0, none⟩ (.bool py)).setCell ⟨w7.heap.size, 1, none⟩ (.slice qy ry ty)) := ⟨_, rfl⟩
        rw [← hW0] at hx hy hc x0 x1 y0 y1 c0 c1 hbw ⊢
        clear hW0
        go_region_held3 (fun w' => Below W0.heap.size W0 w' ∧ w'.cell? ⟨w6.heap.size, 0, none⟩ = some (.bool px) ∧ w'.cell? ⟨w6.heap.size, 1, none⟩ = some (.slice qx rx tx) ∧ w'.cell? ⟨w7.heap.size, 0, none⟩ = some (.bool py) ∧ w'.cell? ⟨w7.heap.size, 1, none⟩ = some (.slice qy ry ty) ∧ w'.cell? ⟨w4.heap.size, 0, none⟩ = some (.bool xc) ∧ w'.cell? ⟨w4.heap.size, 1, none⟩ = some (.slice ac nc cc))
          ((refine keep3 hx.1 hy.1 hc.1 ?_; repeat' (first | assumption | exact Below.refl _ _ | refine Below.drew ?_)))
          (first
            | (go_at_call 13; refine (cmp_h _ _ (hz (za * zc)) (hz (zb * zc)) ((za - zb).sign * zc.sign) _ (hx.int.below (And.left (by assumption))) (hy.int.below (And.left (by assumption))) hR2).mono ?_; rintro e v1 ⟨rfl, hv1⟩; have hB1 := keepl (by assumption) hv1)
            | (go_at_call 16; refine (sign_h _ zc _ (hc.int.below (And.left (by assumption)))).mono ?_; rintro e v2 ⟨rfl, hv2⟩; have hB2 := keepl (by assumption) hv2))
        all_goals go_wp2
        all_goals go_ret
        all_goals exact ⟨rfl, hbw.step (by assumption) (Nat.le_refl _)⟩
      · have qH : (ec (zb * zc) != 0) = true := by rw [bne_iff_ne]; exact hH
        have qG : (ec (za * zc) != 0) = false := by rw [bne_eq_false_iff_eq]; exact hG
        clear hG hH
        go_quiet (fail)
        all_goals go_wp2
        all_goals go_ret
        all_goals exact ⟨rfl, below_dN hbw _⟩
    · have qG : (ec (za * zc) != 0) = true := by rw [bne_iff_ne]; exact hG
      clear hG
      go_quiet (fail)
      all_goals go_wp2
      all_goals go_ret
      all_goals exact ⟨rfl, below_dN hbw _⟩
end Go.Proofs.Yteaejdcnpjhpoab
