/- The walk of suretylaw01.ArithDivides: it answers true at every two texts. -/
import Derived.Test.YteaejdcnpjhpoabVarsD
namespace Go.Proofs.Yteaejdcnpjhpoab
open Go.RowKit

set_option maxRecDepth 20000 in
set_option maxHeartbeats 16000000 in
theorem arithDivides_any (s t : ByteArray) (w : World) (hs : s.size ≤ maxLen) (ht : t.size ≤ maxLen) :
    Calls Try.prog 4 #[.string s, .string t] w fun e w' => e = .returned (.bool true) ∧ Below w.heap.size w w' := by
  go_enter Try.func4, Try.ntmps4
  go_wp2_with fail
  refine (awake_any _).mono ?_
  rintro e w1 ⟨rfl, hbw⟩
  go_wp2_with fail
  refine (num_h s _ (by assumption)).mono ?_
  rintro e w2 ⟨za, xa, aa, na, ca, ya, da, ma, fa, rfl, ka, -, hb2⟩
  have ha := (VI.new ka).stay (below_new _ (.cells #[.bool ya, .slice da ma fa] 28 (0, 0)))
  have la := hbw.size
  replace hbw := ((hbw.step hb2 (Nat.le_refl _)).step (below_new _ (.cells #[.bool xa, .slice aa na ca] 25 (0, 0))) (Nat.le_refl _)).step (below_new _ (.cells #[.bool ya, .slice da ma fa] 28 (0, 0))) (Nat.le_refl _)
  obtain ⟨a0, a1⟩ := ha.cells
  clear hb2 ka la
  go_wp2_with fail
  refine (num_h t _ (by assumption)).mono ?_
  rintro e w3 ⟨zb, xb, ab, nb, cb, yb, db, mb, fb, rfl, kb, -, hb3⟩
  replace ha := ((ha.stay hb3).stay (below_new _ (.cells #[.bool xb, .slice ab nb cb] 25 (0, 0)))).stay (below_new _ (.cells #[.bool yb, .slice db mb fb] 28 (0, 0)))
  clear a0 a1
  obtain ⟨a0, a1⟩ := ha.cells
  have hb := (VI.new kb).stay (below_new _ (.cells #[.bool yb, .slice db mb fb] 28 (0, 0)))
  have lb := hbw.size
  replace hbw := ((hbw.step hb3 (Nat.le_refl _)).step (below_new _ (.cells #[.bool xb, .slice ab nb cb] 25 (0, 0))) (Nat.le_refl _)).step (below_new _ (.cells #[.bool yb, .slice db mb fb] 28 (0, 0))) (Nat.le_refl _)
  obtain ⟨b0, b1⟩ := hb.cells
  clear hb3 kb lb
  by_cases hB : zb = 0
  · subst hB
    go_wp2_with fail
    refine (div_zero _ _ za _ ha.int hb.int).mono ?_
    rintro e w4 ⟨rfl, hb4⟩
    have hq := below_new w4 (.cells #[.bool false, .slice none 0 0] 25 (0, 0))
    have hq2 := below_new (w4.alloc (.cells #[.bool false, .slice none 0 0] 25 (0, 0))) (.cells #[.bool false, .slice none 0 0] 25 (0, 0))
    replace ha := ((ha.stay hb4).stay hq).stay hq2
    clear a0 a1
    obtain ⟨a0, a1⟩ := ha.cells
    replace hb := ((hb.stay hb4).stay hq).stay hq2
    clear b0 b1
    obtain ⟨b0, b1⟩ := hb.cells
    replace hbw := ((hbw.step hb4 (Nat.le_refl _)).step hq (Nat.le_refl _)).step hq2 (Nat.le_refl _)
    clear hb4 hq hq2
    have hq := (VI.new (AInt.zero w4)).stay (below_new _ (.cells #[.bool false, .slice none 0 0] 25 (0, 0)))
    have hr := VI.new ((AInt.zero w4).below (below_new _ (.cells #[.bool false, .slice none 0 0] 25 (0, 0))))
    simp only [World.size_alloc] at hr
    obtain ⟨q0, q1⟩ := hq.cells
    obtain ⟨r0, r1⟩ := hr.cells
    go_wp2_with fail
    refine (sgn_h _ 0 0 _ hb.int rfl).mono ?_
    rintro e w5 ⟨rfl, hb5⟩
    replace ha := ha.stay hb5
    clear a0 a1
    obtain ⟨a0, a1⟩ := ha.cells
    replace hb := hb.stay hb5
    clear b0 b1
    obtain ⟨b0, b1⟩ := hb.cells
    replace hq := hq.stay hb5
    clear q0 q1
    obtain ⟨q0, q1⟩ := hq.cells
    replace hr := hr.stay hb5
    clear r0 r1
    obtain ⟨r0, r1⟩ := hr.cells
    replace hbw := hbw.step hb5 (Nat.le_refl _)
    clear hb5
    go_wp2_with fail
    refine (sgn_h _ 0 0 _ hq.int rfl).mono ?_
    rintro e w6 ⟨rfl, hb6⟩
    replace ha := ha.stay hb6
    clear a0 a1
    obtain ⟨a0, a1⟩ := ha.cells
    replace hb := hb.stay hb6
    clear b0 b1
    obtain ⟨b0, b1⟩ := hb.cells
    replace hq := hq.stay hb6
    clear q0 q1
    obtain ⟨q0, q1⟩ := hq.cells
    replace hr := hr.stay hb6
    clear r0 r1
    obtain ⟨r0, r1⟩ := hr.cells
    replace hbw := hbw.step hb6 (Nat.le_refl _)
    clear hb6
    go_wp2_with fail
    refine (sgn_h _ 0 0 _ hr.int rfl).mono ?_
    rintro e w7 ⟨rfl, hb7⟩
    replace ha := ha.stay hb7
    clear a0 a1
    obtain ⟨a0, a1⟩ := ha.cells
    replace hb := hb.stay hb7
    clear b0 b1
    obtain ⟨b0, b1⟩ := hb.cells
    replace hq := hq.stay hb7
    clear q0 q1
    obtain ⟨q0, q1⟩ := hq.cells
    replace hr := hr.stay hb7
    clear r0 r1
    obtain ⟨r0, r1⟩ := hr.cells
    replace hbw := hbw.step hb7 (Nat.le_refl _)
    clear hb7
    go_wp2
    go_ret
    exact ⟨rfl, hbw⟩
  · obtain ⟨zq, Hzq⟩ : ∃ z, Hid (za.fdiv zb = z) := ⟨_, rfl⟩
    obtain ⟨zr, Hzr⟩ : ∃ z, Hid (za.fmod zb = z) := ⟨_, rfl⟩
    obtain ⟨zp, Hzp⟩ : ∃ z, Hid (zq * zb = z) := ⟨_, rfl⟩
    obtain ⟨sb, Hsb⟩ : ∃ z, Hid (zb.sign = z) := ⟨_, rfl⟩
    have qB : (sb == 0) = false := by rw [← Hsb.out, beq_eq_false_iff_ne]; exact fun h => hB (Int.sign_eq_zero_iff_zero.1 h)
    have HB : Hid (zb ≠ 0) := hB
    clear hB
    go_wp2_with fail
    refine (div_h _ _ za zb zq zr _ ha.int hb.int HB.out Hzq.out Hzr.out).mono ?_
    rintro e w4 ⟨xq, aq, nq, cq, xr, ar, nr, cr, rfl, kq, kr, hb4⟩
    replace ha := ((ha.stay hb4).stay (below_new _ (.cells #[.bool xq, .slice aq nq cq] 25 (0, 0)))).stay (below_new _ (.cells #[.bool xr, .slice ar nr cr] 25 (0, 0)))
    clear a0 a1
    obtain ⟨a0, a1⟩ := ha.cells
    replace hb := ((hb.stay hb4).stay (below_new _ (.cells #[.bool xq, .slice aq nq cq] 25 (0, 0)))).stay (below_new _ (.cells #[.bool xr, .slice ar nr cr] 25 (0, 0)))
    clear b0 b1
    obtain ⟨b0, b1⟩ := hb.cells
    have hq := (VI.new kq).stay (below_new _ (.cells #[.bool xr, .slice ar nr cr] 25 (0, 0)))
    have hr := VI.new (kr.below (below_new _ (.cells #[.bool xq, .slice aq nq cq] 25 (0, 0))))
    simp only [World.size_alloc] at hr
    replace hbw := ((hbw.step hb4 (Nat.le_refl _)).step (below_new _ (.cells #[.bool xq, .slice aq nq cq] 25 (0, 0))) (Nat.le_refl _)).step (below_new _ (.cells #[.bool xr, .slice ar nr cr] 25 (0, 0))) (Nat.le_refl _)
    obtain ⟨q0, q1⟩ := hq.cells
    obtain ⟨r0, r1⟩ := hr.cells
    clear hb4 kq kr
    go_wp2_with fail
    refine (sgn_h _ zb sb _ hb.int Hsb.out).mono ?_
    rintro e w5 ⟨rfl, hb5⟩
    replace ha := ha.stay hb5
    clear a0 a1
    obtain ⟨a0, a1⟩ := ha.cells
    replace hb := hb.stay hb5
    clear b0 b1
    obtain ⟨b0, b1⟩ := hb.cells
    replace hq := hq.stay hb5
    clear q0 q1
    obtain ⟨q0, q1⟩ := hq.cells
    replace hr := hr.stay hb5
    clear r0 r1
    obtain ⟨r0, r1⟩ := hr.cells
    replace hbw := hbw.step hb5 (Nat.le_refl _)
    clear hb5
    go_wp2_with fail
    refine (mul_z _ _ zq zb zp _ hq.int hb.int Hzp.out).mono ?_
    rintro e w6 ⟨xp, ap, np, cp, rfl, kp, hb6⟩
    replace ha := (ha.stay hb6).stay (below_new _ (.cells #[.bool xp, .slice ap np cp] 25 (0, 0)))
    clear a0 a1
    obtain ⟨a0, a1⟩ := ha.cells
    replace hb := (hb.stay hb6).stay (below_new _ (.cells #[.bool xp, .slice ap np cp] 25 (0, 0)))
    clear b0 b1
    obtain ⟨b0, b1⟩ := hb.cells
    replace hq := (hq.stay hb6).stay (below_new _ (.cells #[.bool xp, .slice ap np cp] 25 (0, 0)))
    clear q0 q1
    obtain ⟨q0, q1⟩ := hq.cells
    replace hr := (hr.stay hb6).stay (below_new _ (.cells #[.bool xp, .slice ap np cp] 25 (0, 0)))
    clear r0 r1
    obtain ⟨r0, r1⟩ := hr.cells
    have hp := VI.new kp
    replace hbw := (hbw.step hb6 (Nat.le_refl _)).step (below_new _ (.cells #[.bool xp, .slice ap np cp] 25 (0, 0))) (Nat.le_refl _)
    obtain ⟨p0, p1⟩ := hp.cells
    clear hb6 kp
    have hLb := hb.int.lt
    have hLa := ha.int.lt
    have HL : Hid (zb.natAbs < lim ∧ za.natAbs < lim) := ⟨hLb, hLa⟩
    clear hLb hLa
    by_cases hE : ec zp = 0
    · have qE : (ec zp != 0) = false := by rw [bne_eq_false_iff_eq]; exact hE
      have HE : Hid (ec zp = 0) := hE
      clear hE
      go_wp2_with fail
      refine (add_z _ _ (hz zp) zr za _ hp.int hr.int (by rw [hz_ec HE.out]; exact div_back Hzq.out Hzr.out Hzp.out)).mono ?_
      rintro e w7 ⟨xx, ax, nx, cx, rfl, kx, hb7⟩
      replace ha := (ha.stay hb7).stay (below_new _ (.cells #[.bool xx, .slice ax nx cx] 25 (0, 0)))
      clear a0 a1
      obtain ⟨a0, a1⟩ := ha.cells
      replace hb := (hb.stay hb7).stay (below_new _ (.cells #[.bool xx, .slice ax nx cx] 25 (0, 0)))
      clear b0 b1
      obtain ⟨b0, b1⟩ := hb.cells
      replace hq := (hq.stay hb7).stay (below_new _ (.cells #[.bool xx, .slice ax nx cx] 25 (0, 0)))
      clear q0 q1
      obtain ⟨q0, q1⟩ := hq.cells
      replace hr := (hr.stay hb7).stay (below_new _ (.cells #[.bool xx, .slice ax nx cx] 25 (0, 0)))
      clear r0 r1
      obtain ⟨r0, r1⟩ := hr.cells
      replace hp := (hp.stay hb7).stay (below_new _ (.cells #[.bool xx, .slice ax nx cx] 25 (0, 0)))
      clear p0 p1
      obtain ⟨p0, p1⟩ := hp.cells
      have hx := VI.new kx
      replace hbw := (hbw.step hb7 (Nat.le_refl _)).step (below_new _ (.cells #[.bool xx, .slice ax nx cx] 25 (0, 0))) (Nat.le_refl _)
      obtain ⟨x0, x1⟩ := hx.cells
      clear hb7 kx
      have eza : ec za = 0 := ec_of HL.out.2
      have ezh : hz za = za := hz_of HL.out.2
      rw [ezh] at hx
      obtain ⟨sr, Hsr⟩ : ∃ z, Hid (zr.sign = z) := ⟨_, rfl⟩
      have HC : Hid (((zr.natAbs : Int) - (zb.natAbs : Int)).sign = -1) := rest_less HB.out Hzr.out
      go_wp2
      obtain ⟨W, hW⟩ : ∃ W, W = w7.alloc (.cells #[.bool xx, .slice ax nx cx] 25 (0, 0)) := ⟨_, rfl⟩
      rw [← hW] at hx ha hr hb hbw ⊢
      clear hW hq q0 q1 hp p0 p1 x0 x1 a0 a1 r0 r1 b0 b1
      by_cases hS : sr = 0
      · subst hS
        obtain ⟨x0, x1⟩ := hx.cells
        obtain ⟨a0, a1⟩ := ha.cells
        obtain ⟨r0, r1⟩ := hr.cells
        obtain ⟨b0, b1⟩ := hb.cells
        go_region_with (first
          | (go_at_call 13; have hx9 := hB8; refine (cmp_h _ _ (zr.natAbs : Int) (zb.natAbs : Int) (-1) _ (h7b.below (by first | exact Below.refl _ _ | exact (Below.refl _ _).drew)) (h8.below (by first | exact Below.refl _ _ | exact (Below.refl _ _).drew)) HC.out).mono ?_; rintro e v9 ⟨rfl, hv9⟩; have hB9 : Below W.heap.size W v9 := hB8.step (by first | exact hv9 | exact Below.drew_left hv9) (Nat.le_refl _))
          | (go_at_call 13; refine (cmp_h _ _ za za 0 _ (hx.int.below (by first | exact (Below.refl W.heap.size W) | exact (Below.refl W.heap.size W).drew)) (ha.int.below (by first | exact (Below.refl W.heap.size W) | exact (Below.refl W.heap.size W).drew)) (by simp)).mono ?_; rintro e v1 ⟨rfl, hv1⟩; have hB1 : Below W.heap.size W v1 := (Below.refl W.heap.size W).step (by first | exact hv1 | exact Below.drew_left hv1) (Nat.le_refl _); obtain ⟨r0, r1⟩ := (hr.stay hB1).cells; obtain ⟨b0, b1⟩ := (hb.stay hB1).cells)
          | (go_at_call 16; refine (sgn_h _ zr 0 _ (hr.int.below (by first | exact hB1 | exact hB1.drew)) Hsr.out).mono ?_; rintro e v2 ⟨rfl, hv2⟩; have hB2 : Below W.heap.size W v2 := hB1.step (by first | exact hv2 | exact Below.drew_left hv2) (Nat.le_refl _); obtain ⟨r0, r1⟩ := (hr.stay hB2).cells; obtain ⟨b0, b1⟩ := (hb.stay hB2).cells)
          | (go_at_call 18; have hx8 := hB7; refine (abs_h _ zb _ _ (hb.int.below (by first | exact hB7 | exact hB7.drew)) rfl).mono ?_; rintro e v8 ⟨s8, a8, n8, c8, rfl, h8, hv8⟩; have hB8 : Below W.heap.size W v8 := hB7.step (by first | exact hv8 | exact Below.drew_left hv8) (Nat.le_refl _); have h7b := h7.below (show Below v7.heap.size v7 v8 by first | exact hv8 | exact Below.drew_left hv8))
          | (go_at_call 18; refine (abs_h _ zr _ _ (hr.int.below (by first | exact hB2 | exact hB2.drew)) rfl).mono ?_; rintro e v7 ⟨s7, a7, n7, c7, rfl, h7, hv7⟩; have hB7 : Below W.heap.size W v7 := hB2.step (by first | exact hv7 | exact Below.drew_left hv7) (Nat.le_refl _); obtain ⟨r0, r1⟩ := (hr.stay hB7).cells; obtain ⟨b0, b1⟩ := (hb.stay hB7).cells))
        all_goals go_wp2
        all_goals go_ret
        all_goals exact ⟨rfl, by first | exact hbw.step hB9 (Nat.le_refl _) | exact (hbw.step hB9 (Nat.le_refl _)).drew⟩
      · have qS : (sr == 0) = false := by rw [beq_eq_false_iff_ne]; exact hS
        have qT : (sr == sb) = true := by rw [beq_iff_eq, ← Hsr.out, ← Hsb.out]; exact (rest_facts HB.out Hzr.out).1.resolve_left (fun h => hS (by rw [← Hsr.out, h]; rfl))
        clear hS
        go_region_held3 (fun w' => Below W.heap.size W w' ∧ w'.cell? ⟨w7.heap.size, 0, none⟩ = some (.bool xx) ∧ w'.cell? ⟨w7.heap.size, 1, none⟩ = some (.slice ax nx cx) ∧ w'.cell? ⟨w2.heap.size, 0, none⟩ = some (.bool xa) ∧ w'.cell? ⟨w2.heap.size, 1, none⟩ = some (.slice aa na ca) ∧ w'.cell? ⟨w4.heap.size + 1, 0, none⟩ = some (.bool xr) ∧ w'.cell? ⟨w4.heap.size + 1, 1, none⟩ = some (.slice ar nr cr) ∧ w'.cell? ⟨w3.heap.size, 0, none⟩ = some (.bool xb) ∧ w'.cell? ⟨w3.heap.size, 1, none⟩ = some (.slice ab nb cb))
          ((refine keep4 hx.1 ha.1 hr.1 hb.1 ?_; repeat' (first | assumption | exact Below.refl _ _ | refine Below.drew ?_)))
          (first
            | (go_at_call 13; have hx9 := hB8; refine (cmp_h _ _ (zr.natAbs : Int) (zb.natAbs : Int) (-1) _ h7b h8 HC.out).mono ?_; rintro e v9 ⟨rfl, hv9⟩; have hB9 := keepl (by assumption) hv9)
            | (go_at_call 13; refine (cmp_h _ _ za za 0 _ (hx.int.below (And.left (by assumption))) (ha.int.below (And.left (by assumption))) (by simp)).mono ?_; rintro e v1 ⟨rfl, hv1⟩; have hB1 := keepl (by assumption) hv1)
            | (go_at_call 16; have hx4 := hB3; refine (sgn_h _ zb sb _ (hb.int.below (And.left (by assumption))) Hsb.out).mono ?_; rintro e v4 ⟨rfl, hv4⟩; have hB4 := keepl (by assumption) hv4)
            | (go_at_call 16; have hx3 := hB2; refine (sgn_h _ zr sr _ (hr.int.below (And.left (by assumption))) Hsr.out).mono ?_; rintro e v3 ⟨rfl, hv3⟩; have hB3 := keepl (by assumption) hv3)
            | (go_at_call 16; refine (sgn_h _ zr sr _ (hr.int.below (And.left (by assumption))) Hsr.out).mono ?_; rintro e v2 ⟨rfl, hv2⟩; have hB2 := keepl (by assumption) hv2)
            | (go_at_call 18; have hx8 := hB7; refine (abs_h _ zb _ _ (hb.int.below (And.left (by assumption))) rfl).mono ?_; rintro e v8 ⟨s8, a8, n8, c8, rfl, h8, hv8⟩; have hB8 := keepl (by assumption) hv8; have h7b := h7.below hv8)
            | (go_at_call 18; refine (abs_h _ zr _ _ (hr.int.below (And.left (by assumption))) rfl).mono ?_; rintro e v7 ⟨s7, a7, n7, c7, rfl, h7, hv7⟩; have hB7 := keepl (by assumption) hv7))
        go_wp2
        go_ret
        exact ⟨rfl, hbw.step hB9 (Nat.le_refl _)⟩
    · have qE : (ec zp != 0) = true := by rw [bne_iff_ne]; exact hE
      have qE2 : (ec zp == 11) = true := by rw [beq_iff_eq]; exact ec_big hE
      have HH : Hid (lim ≤ 2 * za.natAbs) := div_big HB.out Hzq.out Hzr.out Hzp.out HL.out.1 hE
      clear hE
      go_wp2_with fail
      refine (bits_big _ za _ ha.int HH.out).mono ?_
      rintro e w7 ⟨n, rfl, hn, hb7⟩
      replace ha := ha.stay hb7
      clear a0 a1
      obtain ⟨a0, a1⟩ := ha.cells
      replace hb := hb.stay hb7
      clear b0 b1
      obtain ⟨b0, b1⟩ := hb.cells
      replace hq := hq.stay hb7
      clear q0 q1
      obtain ⟨q0, q1⟩ := hq.cells
      replace hr := hr.stay hb7
      clear r0 r1
      obtain ⟨r0, r1⟩ := hr.cells
      replace hp := hp.stay hb7
      clear p0 p1
      obtain ⟨p0, p1⟩ := hp.cells
      replace hbw := hbw.step hb7 (Nat.le_refl _)
      clear hb7
      have qn : decide (1024 ≤ (n : Int)) = true := by simp; omega
      go_wp2
      go_ret
      exact ⟨rfl, hbw⟩
end Go.Proofs.Yteaejdcnpjhpoab
