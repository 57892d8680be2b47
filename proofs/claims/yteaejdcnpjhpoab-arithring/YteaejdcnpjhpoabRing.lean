/- The walk of suretylaw01.ArithRing: it answers true at every three texts. -/
import Derived.Test.YteaejdcnpjhpoabVarsZ
namespace Go.Proofs.Yteaejdcnpjhpoab
open Go.RowKit

set_option maxRecDepth 20000 in
set_option maxHeartbeats 16000000 in
theorem arithRing_any (s t u : ByteArray) (w : World) (hs : s.size ≤ maxLen) (ht : t.size ≤ maxLen) (hu : u.size ≤ maxLen) :
    Calls Try.prog 3 #[.string s, .string t, .string u] w fun e w' => e = .returned (.bool true) ∧ Below w.heap.size w w' := by
  go_enter Try.func3, Try.ntmps3
  go_wp2_with fail
  refine (awake_any _).mono ?_
  rintro e w1 ⟨rfl, hbw⟩
  go_wp2_with fail
  refine (num_h s _ (by assumption)).mono ?_
  rintro e w2 ⟨za, xa, aa, na, ca, ya, da, ma, fa, rfl, ka, -, hb2⟩
  have ha := (VI.new ka).stay (below_new _ (.cells #[.bool ya, .slice da ma fa] 28 (0, 0)))
  have la := hbw.size
  replace hbw := ((hbw.step hb2 (Nat.le_refl _)).step (below_new _ (.cells #[.bool xa, .slice aa na ca] 25 (0, 0))) (Nat.le_refl _)).step (below_new _ (.cells #[.bool ya, .slice da ma fa] 28 (0, 0))) (Nat.le_refl _)
  obtain ⟨a0, a1⟩ := ha.cells
  clear hb2 ka la
  go_wp2_with fail
  refine (num_h t _ (by assumption)).mono ?_
  rintro e w3 ⟨zb, xb, ab, nb, cb, yb, db, mb, fb, rfl, kb, -, hb3⟩
  replace ha := ((ha.stay hb3).stay (below_new _ (.cells #[.bool xb, .slice ab nb cb] 25 (0, 0)))).stay (below_new _ (.cells #[.bool yb, .slice db mb fb] 28 (0, 0)))
  clear a0 a1
  obtain ⟨a0, a1⟩ := ha.cells
  have hb := (VI.new kb).stay (below_new _ (.cells #[.bool yb, .slice db mb fb] 28 (0, 0)))
  have lb := hbw.size
  replace hbw := ((hbw.step hb3 (Nat.le_refl _)).step (below_new _ (.cells #[.bool xb, .slice ab nb cb] 25 (0, 0))) (Nat.le_refl _)).step (below_new _ (.cells #[.bool yb, .slice db mb fb] 28 (0, 0))) (Nat.le_refl _)
  obtain ⟨b0, b1⟩ := hb.cells
  clear hb3 kb lb
  go_wp2_with fail
  refine (num_h u _ (by assumption)).mono ?_
  rintro e w4 ⟨zc, xc, ac, nc, cc, yc, dc, mc, fc, rfl, kc, -, hb4⟩
  replace ha := ((ha.stay hb4).stay (below_new _ (.cells #[.bool xc, .slice ac nc cc] 25 (0, 0)))).stay (below_new _ (.cells #[.bool yc, .slice dc mc fc] 28 (0, 0)))
  clear a0 a1
  obtain ⟨a0, a1⟩ := ha.cells
  replace hb := ((hb.stay hb4).stay (below_new _ (.cells #[.bool xc, .slice ac nc cc] 25 (0, 0)))).stay (below_new _ (.cells #[.bool yc, .slice dc mc fc] 28 (0, 0)))
  clear b0 b1
  obtain ⟨b0, b1⟩ := hb.cells
  have hc := (VI.new kc).stay (below_new _ (.cells #[.bool yc, .slice dc mc fc] 28 (0, 0)))
  have lc := hbw.size
  replace hbw := ((hbw.step hb4 (Nat.le_refl _)).step (below_new _ (.cells #[.bool xc, .slice ac nc cc] 25 (0, 0))) (Nat.le_refl _)).step (below_new _ (.cells #[.bool yc, .slice dc mc fc] 28 (0, 0))) (Nat.le_refl _)
  obtain ⟨c0, c1⟩ := hc.cells
  clear hb4 kc lc
  have pa : ec za = 0 := ec_of ha.int.lt
  obtain ⟨zab, Hzab⟩ : ∃ z, Hid (za + zb = z) := ⟨_, rfl⟩
  have rzab := ec_range zab
  obtain ⟨zp, Hzp⟩ : ∃ z, Hid (za * zb = z) := ⟨_, rfl⟩
  have rzp := ec_range zp
  go_wp2_with fail
  refine (add_z _ _ za zb zab _ ha.int hb.int Hzab.out).mono ?_
  rintro e w5 ⟨xd, ad, nd, cd, rfl, kd, hb5⟩
  replace ha := (ha.stay hb5).stay (below_new _ (.cells #[.bool xd, .slice ad nd cd] 25 (0, 0)))
  clear a0 a1
  obtain ⟨a0, a1⟩ := ha.cells
  replace hb := (hb.stay hb5).stay (below_new _ (.cells #[.bool xd, .slice ad nd cd] 25 (0, 0)))
  clear b0 b1
  obtain ⟨b0, b1⟩ := hb.cells
  replace hc := (hc.stay hb5).stay (below_new _ (.cells #[.bool xd, .slice ad nd cd] 25 (0, 0)))
  clear c0 c1
  obtain ⟨c0, c1⟩ := hc.cells
  have hd := VI.new kd
  replace hbw := (hbw.step hb5 (Nat.le_refl _)).step (below_new _ (.cells #[.bool xd, .slice ad nd cd] 25 (0, 0))) (Nat.le_refl _)
  obtain ⟨d0, d1⟩ := hd.cells
  clear hb5 kd
  go_wp2_with fail
  refine (add_z _ _ zb za zab _ hb.int ha.int (by rw [Int.add_comm]; exact Hzab.out)).mono ?_
  rintro e w6 ⟨xf, af, nf, cf, rfl, kf, hb6⟩
  replace ha := (ha.stay hb6).stay (below_new _ (.cells #[.bool xf, .slice af nf cf] 25 (0, 0)))
  clear a0 a1
  obtain ⟨a0, a1⟩ := ha.cells
  replace hb := (hb.stay hb6).stay (below_new _ (.cells #[.bool xf, .slice af nf cf] 25 (0, 0)))
  clear b0 b1
  obtain ⟨b0, b1⟩ := hb.cells
  replace hc := (hc.stay hb6).stay (below_new _ (.cells #[.bool xf, .slice af nf cf] 25 (0, 0)))
  clear c0 c1
  obtain ⟨c0, c1⟩ := hc.cells
  replace hd := (hd.stay hb6).stay (below_new _ (.cells #[.bool xf, .slice af nf cf] 25 (0, 0)))
  clear d0 d1
  obtain ⟨d0, d1⟩ := hd.cells
  have hf := VI.new kf
  replace hbw := (hbw.step hb6 (Nat.le_refl _)).step (below_new _ (.cells #[.bool xf, .slice af nf cf] 25 (0, 0))) (Nat.le_refl _)
  obtain ⟨f0, f1⟩ := hf.cells
  clear hb6 kf
  go_wp2_with fail
  refine (mul_z _ _ za zb zp _ ha.int hb.int Hzp.out).mono ?_
  rintro e w7 ⟨xp, ap, np, cp, rfl, kp, hb7⟩
  replace ha := (ha.stay hb7).stay (below_new _ (.cells #[.bool xp, .slice ap np cp] 25 (0, 0)))
  clear a0 a1
  obtain ⟨a0, a1⟩ := ha.cells
  replace hb := (hb.stay hb7).stay (below_new _ (.cells #[.bool xp, .slice ap np cp] 25 (0, 0)))
  clear b0 b1
  obtain ⟨b0, b1⟩ := hb.cells
  replace hc := (hc.stay hb7).stay (below_new _ (.cells #[.bool xp, .slice ap np cp] 25 (0, 0)))
  clear c0 c1
  obtain ⟨c0, c1⟩ := hc.cells
  replace hd := (hd.stay hb7).stay (below_new _ (.cells #[.bool xp, .slice ap np cp] 25 (0, 0)))
  clear d0 d1
  obtain ⟨d0, d1⟩ := hd.cells
  replace hf := (hf.stay hb7).stay (below_new _ (.cells #[.bool xp, .slice ap np cp] 25 (0, 0)))
  clear f0 f1
  obtain ⟨f0, f1⟩ := hf.cells
  have hp := VI.new kp
  replace hbw := (hbw.step hb7 (Nat.le_refl _)).step (below_new _ (.cells #[.bool xp, .slice ap np cp] 25 (0, 0))) (Nat.le_refl _)
  obtain ⟨p0, p1⟩ := hp.cells
  clear hb7 kp
  go_wp2_with fail
  refine (mul_z _ _ zb za zp _ hb.int ha.int (by rw [Int.mul_comm]; exact Hzp.out)).mono ?_
  rintro e w8 ⟨xq, aq, nq, cq, rfl, kq, hb8⟩
  replace ha := (ha.stay hb8).stay (below_new _ (.cells #[.bool xq, .slice aq nq cq] 25 (0, 0)))
  clear a0 a1
  obtain ⟨a0, a1⟩ := ha.cells
  replace hb := (hb.stay hb8).stay (below_new _ (.cells #[.bool xq, .slice aq nq cq] 25 (0, 0)))
  clear b0 b1
  obtain ⟨b0, b1⟩ := hb.cells
  replace hc := (hc.stay hb8).stay (below_new _ (.cells #[.bool xq, .slice aq nq cq] 25 (0, 0)))
  clear c0 c1
  obtain ⟨c0, c1⟩ := hc.cells
  replace hd := (hd.stay hb8).stay (below_new _ (.cells #[.bool xq, .slice aq nq cq] 25 (0, 0)))
  clear d0 d1
  obtain ⟨d0, d1⟩ := hd.cells
  replace hf := (hf.stay hb8).stay (below_new _ (.cells #[.bool xq, .slice aq nq cq] 25 (0, 0)))
  clear f0 f1
  obtain ⟨f0, f1⟩ := hf.cells
  replace hp := (hp.stay hb8).stay (below_new _ (.cells #[.bool xq, .slice aq nq cq] 25 (0, 0)))
  clear p0 p1
  obtain ⟨p0, p1⟩ := hp.cells
  have hq := VI.new kq
  replace hbw := (hbw.step hb8 (Nat.le_refl _)).step (below_new _ (.cells #[.bool xq, .slice aq nq cq] 25 (0, 0))) (Nat.le_refl _)
  obtain ⟨q0, q1⟩ := hq.cells
  clear hb8 kq
  go_wp2_with fail
  refine (cmp_h _ _ (hz zab) (hz zab) 0 _ hd.int hf.int (by simp)).mono ?_
  rintro e w9 ⟨rfl, hb9⟩
  replace ha := ha.stay hb9
  clear a0 a1
  obtain ⟨a0, a1⟩ := ha.cells
  replace hb := hb.stay hb9
  clear b0 b1
  obtain ⟨b0, b1⟩ := hb.cells
  replace hc := hc.stay hb9
  clear c0 c1
  obtain ⟨c0, c1⟩ := hc.cells
  replace hd := hd.stay hb9
  clear d0 d1
  obtain ⟨d0, d1⟩ := hd.cells
  replace hf := hf.stay hb9
  clear f0 f1
  obtain ⟨f0, f1⟩ := hf.cells
  replace hp := hp.stay hb9
  clear p0 p1
  obtain ⟨p0, p1⟩ := hp.cells
  replace hq := hq.stay hb9
  clear q0 q1
  obtain ⟨q0, q1⟩ := hq.cells
  replace hbw := hbw.step hb9 (Nat.le_refl _)
  clear hb9
  go_wp2_with fail
  refine (cmp_h _ _ (hz zp) (hz zp) 0 _ hp.int hq.int (by simp)).mono ?_
  rintro e w10 ⟨rfl, hb10⟩
  replace ha := ha.stay hb10
  clear a0 a1
  obtain ⟨a0, a1⟩ := ha.cells
  replace hb := hb.stay hb10
  clear b0 b1
  obtain ⟨b0, b1⟩ := hb.cells
  replace hc := hc.stay hb10
  clear c0 c1
  obtain ⟨c0, c1⟩ := hc.cells
  replace hd := hd.stay hb10
  clear d0 d1
  obtain ⟨d0, d1⟩ := hd.cells
  replace hf := hf.stay hb10
  clear f0 f1
  obtain ⟨f0, f1⟩ := hf.cells
  replace hp := hp.stay hb10
  clear p0 p1
  obtain ⟨p0, p1⟩ := hp.cells
  replace hq := hq.stay hb10
  clear q0 q1
  obtain ⟨q0, q1⟩ := hq.cells
  replace hbw := hbw.step hb10 (Nat.le_refl _)
  clear hb10
  clear hf f0 f1 hq q0 q1
  by_cases hE : ec zab = 0
  · have qE : (ec zab == 0) = true := by rw [beq_iff_eq]; exact hE
    have HE : Hid (ec zab = 0) := hE
    clear hE
    go_wp2_with fail
    refine (subI_z _ _ (hz zab) zb za _ hd.int hb.int (by rw [hz_ec HE.out, ← Hzab.out]; omega)).mono ?_
    rintro e w11 ⟨xm, am, nm, cm, rfl, km, hb11⟩
    replace ha := (ha.stay hb11).stay (below_new _ (.cells #[.bool xm, .slice am nm cm] 25 (0, 0)))
    clear a0 a1
    obtain ⟨a0, a1⟩ := ha.cells
    replace hb := (hb.stay hb11).stay (below_new _ (.cells #[.bool xm, .slice am nm cm] 25 (0, 0)))
    clear b0 b1
    obtain ⟨b0, b1⟩ := hb.cells
    replace hc := (hc.stay hb11).stay (below_new _ (.cells #[.bool xm, .slice am nm cm] 25 (0, 0)))
    clear c0 c1
    obtain ⟨c0, c1⟩ := hc.cells
    replace hd := (hd.stay hb11).stay (below_new _ (.cells #[.bool xm, .slice am nm cm] 25 (0, 0)))
    clear d0 d1
    obtain ⟨d0, d1⟩ := hd.cells
    replace hp := (hp.stay hb11).stay (below_new _ (.cells #[.bool xm, .slice am nm cm] 25 (0, 0)))
    clear p0 p1
    obtain ⟨p0, p1⟩ := hp.cells
    have hm := VI.new km
    replace hbw := (hbw.step hb11 (Nat.le_refl _)).step (below_new _ (.cells #[.bool xm, .slice am nm cm] 25 (0, 0))) (Nat.le_refl _)
    obtain ⟨m0, m1⟩ := hm.cells
    clear hb11 km
    go_wp2_with fail
    refine (cmp_h _ _ (hz za) za 0 _ hm.int ha.int (by rw [hz_ec pa]; simp)).mono ?_
    rintro e w12 ⟨rfl, hb12⟩
    replace ha := ha.stay hb12
    clear a0 a1
    obtain ⟨a0, a1⟩ := ha.cells
    replace hb := hb.stay hb12
    clear b0 b1
    obtain ⟨b0, b1⟩ := hb.cells
    replace hc := hc.stay hb12
    clear c0 c1
    obtain ⟨c0, c1⟩ := hc.cells
    replace hd := hd.stay hb12
    clear d0 d1
    obtain ⟨d0, d1⟩ := hd.cells
    replace hp := hp.stay hb12
    clear p0 p1
    obtain ⟨p0, p1⟩ := hp.cells
    replace hm := hm.stay hb12
    clear m0 m1
    obtain ⟨m0, m1⟩ := hm.cells
    replace hbw := hbw.step hb12 (Nat.le_refl _)
    clear hb12
    clear hm m0 m1
    clear hd d0 d1
    obtain ⟨zbc, Hzbc⟩ : ∃ z, Hid (zb + zc = z) := ⟨_, rfl⟩
    have rzbc := ec_range zbc
    obtain ⟨zl, Hzl⟩ : ∃ z, Hid (za * hz zbc = z) := ⟨_, rfl⟩
    have rzl := ec_range zl
    obtain ⟨zac, Hzac⟩ : ∃ z, Hid (za * zc = z) := ⟨_, rfl⟩
    have rzac := ec_range zac
    obtain ⟨zr, Hzr⟩ : ∃ z, Hid (hz zp + hz zac = z) := ⟨_, rfl⟩
    have rzr := ec_range zr
    go_wp2_with fail
    refine (add_z _ _ zb zc zbc _ hb.int hc.int Hzbc.out).mono ?_
    rintro e w13 ⟨xi, ai, ni, ci, rfl, ki, hb13⟩
    replace ha := (ha.stay hb13).stay (below_new _ (.cells #[.bool xi, .slice ai ni ci] 25 (0, 0)))
    clear a0 a1
    obtain ⟨a0, a1⟩ := ha.cells
    replace hb := (hb.stay hb13).stay (below_new _ (.cells #[.bool xi, .slice ai ni ci] 25 (0, 0)))
    clear b0 b1
    obtain ⟨b0, b1⟩ := hb.cells
    replace hc := (hc.stay hb13).stay (below_new _ (.cells #[.bool xi, .slice ai ni ci] 25 (0, 0)))
    clear c0 c1
    obtain ⟨c0, c1⟩ := hc.cells
    replace hp := (hp.stay hb13).stay (below_new _ (.cells #[.bool xi, .slice ai ni ci] 25 (0, 0)))
    clear p0 p1
    obtain ⟨p0, p1⟩ := hp.cells
    have hi := VI.new ki
    replace hbw := (hbw.step hb13 (Nat.le_refl _)).step (below_new _ (.cells #[.bool xi, .slice ai ni ci] 25 (0, 0))) (Nat.le_refl _)
    obtain ⟨i0, i1⟩ := hi.cells
    clear hb13 ki
    go_wp2_with fail
    refine (mul_z _ _ za (hz zbc) zl _ ha.int hi.int Hzl.out).mono ?_
    rintro e w14 ⟨xl, al, nl, cl, rfl, kl, hb14⟩
    replace ha := (ha.stay hb14).stay (below_new _ (.cells #[.bool xl, .slice al nl cl] 25 (0, 0)))
    clear a0 a1
    obtain ⟨a0, a1⟩ := ha.cells
    replace hb := (hb.stay hb14).stay (below_new _ (.cells #[.bool xl, .slice al nl cl] 25 (0, 0)))
    clear b0 b1
    obtain ⟨b0, b1⟩ := hb.cells
    replace hc := (hc.stay hb14).stay (below_new _ (.cells #[.bool xl, .slice al nl cl] 25 (0, 0)))
    clear c0 c1
    obtain ⟨c0, c1⟩ := hc.cells
    replace hp := (hp.stay hb14).stay (below_new _ (.cells #[.bool xl, .slice al nl cl] 25 (0, 0)))
    clear p0 p1
    obtain ⟨p0, p1⟩ := hp.cells
    replace hi := (hi.stay hb14).stay (below_new _ (.cells #[.bool xl, .slice al nl cl] 25 (0, 0)))
    clear i0 i1
    obtain ⟨i0, i1⟩ := hi.cells
    have hl := VI.new kl
    replace hbw := (hbw.step hb14 (Nat.le_refl _)).step (below_new _ (.cells #[.bool xl, .slice al nl cl] 25 (0, 0))) (Nat.le_refl _)
    obtain ⟨l0, l1⟩ := hl.cells
    clear hb14 kl
    clear hi i0 i1
    go_wp2_with fail
    refine (mul_z _ _ za zc zac _ ha.int hc.int Hzac.out).mono ?_
    rintro e w15 ⟨xk, ak, nk, ck, rfl, kk, hb15⟩
    replace ha := (ha.stay hb15).stay (below_new _ (.cells #[.bool xk, .slice ak nk ck] 25 (0, 0)))
    clear a0 a1
    obtain ⟨a0, a1⟩ := ha.cells
    replace hb := (hb.stay hb15).stay (below_new _ (.cells #[.bool xk, .slice ak nk ck] 25 (0, 0)))
    clear b0 b1
    obtain ⟨b0, b1⟩ := hb.cells
    replace hc := (hc.stay hb15).stay (below_new _ (.cells #[.bool xk, .slice ak nk ck] 25 (0, 0)))
    clear c0 c1
    obtain ⟨c0, c1⟩ := hc.cells
    replace hp := (hp.stay hb15).stay (below_new _ (.cells #[.bool xk, .slice ak nk ck] 25 (0, 0)))
    clear p0 p1
    obtain ⟨p0, p1⟩ := hp.cells
    replace hl := (hl.stay hb15).stay (below_new _ (.cells #[.bool xk, .slice ak nk ck] 25 (0, 0)))
    clear l0 l1
    obtain ⟨l0, l1⟩ := hl.cells
    have hk := VI.new kk
    replace hbw := (hbw.step hb15 (Nat.le_refl _)).step (below_new _ (.cells #[.bool xk, .slice ak nk ck] 25 (0, 0))) (Nat.le_refl _)
    obtain ⟨k0, k1⟩ := hk.cells
    clear hb15 kk
    go_wp2_with fail
    refine (add_z _ _ (hz zp) (hz zac) zr _ hp.int hk.int Hzr.out).mono ?_
    rintro e w16 ⟨xr, ar, nr, cr, rfl, kr, hb16⟩
    replace ha := (ha.stay hb16).stay (below_new _ (.cells #[.bool xr, .slice ar nr cr] 25 (0, 0)))
    clear a0 a1
    obtain ⟨a0, a1⟩ := ha.cells
    replace hb := (hb.stay hb16).stay (below_new _ (.cells #[.bool xr, .slice ar nr cr] 25 (0, 0)))
    clear b0 b1
    obtain ⟨b0, b1⟩ := hb.cells
    replace hc := (hc.stay hb16).stay (below_new _ (.cells #[.bool xr, .slice ar nr cr] 25 (0, 0)))
    clear c0 c1
    obtain ⟨c0, c1⟩ := hc.cells
    replace hp := (hp.stay hb16).stay (below_new _ (.cells #[.bool xr, .slice ar nr cr] 25 (0, 0)))
    clear p0 p1
    obtain ⟨p0, p1⟩ := hp.cells
    replace hl := (hl.stay hb16).stay (below_new _ (.cells #[.bool xr, .slice ar nr cr] 25 (0, 0)))
    clear l0 l1
    obtain ⟨l0, l1⟩ := hl.cells
    replace hk := (hk.stay hb16).stay (below_new _ (.cells #[.bool xr, .slice ar nr cr] 25 (0, 0)))
    clear k0 k1
    obtain ⟨k0, k1⟩ := hk.cells
    have hr := VI.new kr
    replace hbw := (hbw.step hb16 (Nat.le_refl _)).step (below_new _ (.cells #[.bool xr, .slice ar nr cr] 25 (0, 0))) (Nat.le_refl _)
    obtain ⟨r0, r1⟩ := hr.cells
    clear hb16 kr
    clear hk k0 k1
    by_cases hS : ec zab + ec zp + ec zbc + ec zl + ec zac + ec zr = 0
    · have qS : (ec zab + ec zp + ec zbc + ec zl + ec zac + ec zr != 0) = false := by rw [bne_eq_false_iff_eq]; exact hS
      have HS : Hid (ec zp = 0 ∧ ec zbc = 0 ∧ ec zl = 0 ∧ ec zac = 0 ∧ ec zr = 0) := ⟨by omega, by omega, by omega, by omega, by omega⟩
      clear hS
      obtain ⟨zpc, Hzpc⟩ : ∃ z, Hid (hz zp * zc = z) := ⟨_, rfl⟩
      have rzpc := ec_range zpc
      obtain ⟨zx, Hzx⟩ : ∃ z, Hid (zb * zc = z) := ⟨_, rfl⟩
      have rzx := ec_range zx
      obtain ⟨zax, Hzax⟩ : ∃ z, Hid (za * hz zx = z) := ⟨_, rfl⟩
      have rzax := ec_range zax
      go_wp2_with fail
      refine (mul_z _ _ (hz zp) zc zpc _ hp.int hc.int Hzpc.out).mono ?_
      rintro e w17 ⟨xm, am, nm, cm, rfl, km, hb17⟩
      replace ha := (ha.stay hb17).stay (below_new _ (.cells #[.bool xm, .slice am nm cm] 25 (0, 0)))
      clear a0 a1
      obtain ⟨a0, a1⟩ := ha.cells
      replace hb := (hb.stay hb17).stay (below_new _ (.cells #[.bool xm, .slice am nm cm] 25 (0, 0)))
      clear b0 b1
      obtain ⟨b0, b1⟩ := hb.cells
      replace hc := (hc.stay hb17).stay (below_new _ (.cells #[.bool xm, .slice am nm cm] 25 (0, 0)))
      clear c0 c1
      obtain ⟨c0, c1⟩ := hc.cells
      replace hp := (hp.stay hb17).stay (below_new _ (.cells #[.bool xm, .slice am nm cm] 25 (0, 0)))
      clear p0 p1
      obtain ⟨p0, p1⟩ := hp.cells
      replace hl := (hl.stay hb17).stay (below_new _ (.cells #[.bool xm, .slice am nm cm] 25 (0, 0)))
      clear l0 l1
      obtain ⟨l0, l1⟩ := hl.cells
      replace hr := (hr.stay hb17).stay (below_new _ (.cells #[.bool xm, .slice am nm cm] 25 (0, 0)))
      clear r0 r1
      obtain ⟨r0, r1⟩ := hr.cells
      have hm := VI.new km
      replace hbw := (hbw.step hb17 (Nat.le_refl _)).step (below_new _ (.cells #[.bool xm, .slice am nm cm] 25 (0, 0))) (Nat.le_refl _)
      obtain ⟨m0, m1⟩ := hm.cells
      clear hb17 km
      go_wp2_with fail
      refine (mul_z _ _ zb zc zx _ hb.int hc.int Hzx.out).mono ?_
      rintro e w18 ⟨xn, an, nn, cn, rfl, kn, hb18⟩
      replace ha := (ha.stay hb18).stay (below_new _ (.cells #[.bool xn, .slice an nn cn] 25 (0, 0)))
      clear a0 a1
      obtain ⟨a0, a1⟩ := ha.cells
      replace hb := (hb.stay hb18).stay (below_new _ (.cells #[.bool xn, .slice an nn cn] 25 (0, 0)))
      clear b0 b1
      obtain ⟨b0, b1⟩ := hb.cells
      replace hc := (hc.stay hb18).stay (below_new _ (.cells #[.bool xn, .slice an nn cn] 25 (0, 0)))
      clear c0 c1
      obtain ⟨c0, c1⟩ := hc.cells
      replace hp := (hp.stay hb18).stay (below_new _ (.cells #[.bool xn, .slice an nn cn] 25 (0, 0)))
      clear p0 p1
      obtain ⟨p0, p1⟩ := hp.cells
      replace hl := (hl.stay hb18).stay (below_new _ (.cells #[.bool xn, .slice an nn cn] 25 (0, 0)))
      clear l0 l1
      obtain ⟨l0, l1⟩ := hl.cells
      replace hr := (hr.stay hb18).stay (below_new _ (.cells #[.bool xn, .slice an nn cn] 25 (0, 0)))
      clear r0 r1
      obtain ⟨r0, r1⟩ := hr.cells
      replace hm := (hm.stay hb18).stay (below_new _ (.cells #[.bool xn, .slice an nn cn] 25 (0, 0)))
      clear m0 m1
      obtain ⟨m0, m1⟩ := hm.cells
      have hn := VI.new kn
      replace hbw := (hbw.step hb18 (Nat.le_refl _)).step (below_new _ (.cells #[.bool xn, .slice an nn cn] 25 (0, 0))) (Nat.le_refl _)
      obtain ⟨n0, n1⟩ := hn.cells
      clear hb18 kn
      go_wp2_with fail
      refine (mul_z _ _ za (hz zx) zax _ ha.int hn.int Hzax.out).mono ?_
      rintro e w19 ⟨xo, ao, no, co, rfl, ko, hb19⟩
      replace ha := (ha.stay hb19).stay (below_new _ (.cells #[.bool xo, .slice ao no co] 25 (0, 0)))
      clear a0 a1
      obtain ⟨a0, a1⟩ := ha.cells
      replace hb := (hb.stay hb19).stay (below_new _ (.cells #[.bool xo, .slice ao no co] 25 (0, 0)))
      clear b0 b1
      obtain ⟨b0, b1⟩ := hb.cells
      replace hc := (hc.stay hb19).stay (below_new _ (.cells #[.bool xo, .slice ao no co] 25 (0, 0)))
      clear c0 c1
      obtain ⟨c0, c1⟩ := hc.cells
      replace hp := (hp.stay hb19).stay (below_new _ (.cells #[.bool xo, .slice ao no co] 25 (0, 0)))
      clear p0 p1
      obtain ⟨p0, p1⟩ := hp.cells
      replace hl := (hl.stay hb19).stay (below_new _ (.cells #[.bool xo, .slice ao no co] 25 (0, 0)))
      clear l0 l1
      obtain ⟨l0, l1⟩ := hl.cells
      replace hr := (hr.stay hb19).stay (below_new _ (.cells #[.bool xo, .slice ao no co] 25 (0, 0)))
      clear r0 r1
      obtain ⟨r0, r1⟩ := hr.cells
      replace hm := (hm.stay hb19).stay (below_new _ (.cells #[.bool xo, .slice ao no co] 25 (0, 0)))
      clear m0 m1
      obtain ⟨m0, m1⟩ := hm.cells
      replace hn := (hn.stay hb19).stay (below_new _ (.cells #[.bool xo, .slice ao no co] 25 (0, 0)))
      clear n0 n1
      obtain ⟨n0, n1⟩ := hn.cells
      have ho := VI.new ko
      replace hbw := (hbw.step hb19 (Nat.le_refl _)).step (below_new _ (.cells #[.bool xo, .slice ao no co] 25 (0, 0))) (Nat.le_refl _)
      obtain ⟨o0, o1⟩ := ho.cells
      clear hb19 ko
      clear ha a0 a1
      clear hb b0 b1
      clear hc c0 c1
      clear hp p0 p1
      clear hn n0 n1
      go_wp2_with fail
      refine (cmp_h _ _ (hz zl) (hz zr) 0 _ hl.int hr.int (by obtain ⟨e1, e2, e3, e4, e5⟩ := HS.out; rw [hz_ec e3, hz_ec e5, ← Hzl.out, ← Hzr.out, hz_ec e2, hz_ec e1, hz_ec e4, ← Hzbc.out, ← Hzp.out, ← Hzac.out, Int.mul_add]; simp)).mono ?_
      rintro e w20 ⟨rfl, hb20⟩
      replace hl := hl.stay hb20
      clear l0 l1
      obtain ⟨l0, l1⟩ := hl.cells
      replace hr := hr.stay hb20
      clear r0 r1
      obtain ⟨r0, r1⟩ := hr.cells
      replace hm := hm.stay hb20
      clear m0 m1
      obtain ⟨m0, m1⟩ := hm.cells
      replace ho := ho.stay hb20
      clear o0 o1
      obtain ⟨o0, o1⟩ := ho.cells
      replace hbw := hbw.step hb20 (Nat.le_refl _)
      clear hb20
      by_cases hM : ec zpc = 0
      · by_cases hN : ec zx = 0
        · by_cases hO : ec zax = 0
          · have qM : (ec zpc != 0) = false := by rw [bne_eq_false_iff_eq]; exact hM
            have qN : (ec zx != 0) = false := by rw [bne_eq_false_iff_eq]; exact hN
            have qO : (ec zax != 0) = false := by rw [bne_eq_false_iff_eq]; exact hO
            have HR : Hid ((hz zpc - hz zax).sign = 0) := by show _ = _; rw [hz_ec hM, hz_ec hO, ← Hzpc.out, ← Hzax.out, hz_ec hN, hz_ec HS.out.1, ← Hzx.out, ← Hzp.out, Int.mul_assoc]; simp
            clear hM hN hO
            go_wp2_with fail
            refine (cmp_h _ _ (hz zpc) (hz zax) 0 _ hm.int ho.int HR.out).mono ?_
            rintro e w21 ⟨rfl, hb21⟩
            replace hl := hl.stay hb21
            clear l0 l1
            obtain ⟨l0, l1⟩ := hl.cells
            replace hr := hr.stay hb21
            clear r0 r1
            obtain ⟨r0, r1⟩ := hr.cells
            replace hm := hm.stay hb21
            clear m0 m1
            obtain ⟨m0, m1⟩ := hm.cells
            replace ho := ho.stay hb21
            clear o0 o1
            obtain ⟨o0, o1⟩ := ho.cells
            replace hbw := hbw.step hb21 (Nat.le_refl _)
            clear hb21
            go_wp2
            go_ret
            exact ⟨rfl, hbw⟩
          · have qM : (ec zpc != 0) = false := by rw [bne_eq_false_iff_eq]; exact hM
            have qN : (ec zx != 0) = false := by rw [bne_eq_false_iff_eq]; exact hN
            have qO : (ec zax != 0) = true := by rw [bne_iff_ne]; exact hO
            clear hM hN hO
            go_wp2
            go_ret
            exact ⟨rfl, hbw⟩
        · have qM : (ec zpc != 0) = false := by rw [bne_eq_false_iff_eq]; exact hM
          have qN : (ec zx != 0) = true := by rw [bne_iff_ne]; exact hN
          clear hM hN
          go_wp2
          go_ret
          exact ⟨rfl, hbw⟩
      · have qM : (ec zpc != 0) = true := by rw [bne_iff_ne]; exact hM
        clear hM
        go_wp2
        go_ret
        exact ⟨rfl, hbw⟩
    · have qS : (ec zab + ec zp + ec zbc + ec zl + ec zac + ec zr != 0) = true := by rw [bne_iff_ne]; exact hS
      clear hS
      go_wp2
      go_ret
      exact ⟨rfl, hbw⟩
  · have qE : (ec zab == 0) = false := by rw [beq_eq_false_iff_ne]; exact hE
    have HE : Hid (¬ ec zab = 0) := hE
    clear hE
    clear hd d0 d1
    obtain ⟨zbc, Hzbc⟩ : ∃ z, Hid (zb + zc = z) := ⟨_, rfl⟩
    have rzbc := ec_range zbc
    obtain ⟨zl, Hzl⟩ : ∃ z, Hid (za * hz zbc = z) := ⟨_, rfl⟩
    have rzl := ec_range zl
    obtain ⟨zac, Hzac⟩ : ∃ z, Hid (za * zc = z) := ⟨_, rfl⟩
    have rzac := ec_range zac
    obtain ⟨zr, Hzr⟩ : ∃ z, Hid (hz zp + hz zac = z) := ⟨_, rfl⟩
    have rzr := ec_range zr
    go_wp2_with fail
    refine (add_z _ _ zb zc zbc _ hb.int hc.int Hzbc.out).mono ?_
    rintro e w11 ⟨xi, ai, ni, ci, rfl, ki, hb11⟩
    replace ha := (ha.stay hb11).stay (below_new _ (.cells #[.bool xi, .slice ai ni ci] 25 (0, 0)))
    clear a0 a1
    obtain ⟨a0, a1⟩ := ha.cells
    replace hb := (hb.stay hb11).stay (below_new _ (.cells #[.bool xi, .slice ai ni ci] 25 (0, 0)))
    clear b0 b1
    obtain ⟨b0, b1⟩ := hb.cells
    replace hc := (hc.stay hb11).stay (below_new _ (.cells #[.bool xi, .slice ai ni ci] 25 (0, 0)))
    clear c0 c1
    obtain ⟨c0, c1⟩ := hc.cells
    replace hp := (hp.stay hb11).stay (below_new _ (.cells #[.bool xi, .slice ai ni ci] 25 (0, 0)))
    clear p0 p1
    obtain ⟨p0, p1⟩ := hp.cells
    have hi := VI.new ki
    replace hbw := (hbw.step hb11 (Nat.le_refl _)).step (below_new _ (.cells #[.bool xi, .slice ai ni ci] 25 (0, 0))) (Nat.le_refl _)
    obtain ⟨i0, i1⟩ := hi.cells
    clear hb11 ki
    go_wp2_with fail
    refine (mul_z _ _ za (hz zbc) zl _ ha.int hi.int Hzl.out).mono ?_
    rintro e w12 ⟨xl, al, nl, cl, rfl, kl, hb12⟩
    replace ha := (ha.stay hb12).stay (below_new _ (.cells #[.bool xl, .slice al nl cl] 25 (0, 0)))
    clear a0 a1
    obtain ⟨a0, a1⟩ := ha.cells
    replace hb := (hb.stay hb12).stay (below_new _ (.cells #[.bool xl, .slice al nl cl] 25 (0, 0)))
    clear b0 b1
    obtain ⟨b0, b1⟩ := hb.cells
    replace hc := (hc.stay hb12).stay (below_new _ (.cells #[.bool xl, .slice al nl cl] 25 (0, 0)))
    clear c0 c1
    obtain ⟨c0, c1⟩ := hc.cells
    replace hp := (hp.stay hb12).stay (below_new _ (.cells #[.bool xl, .slice al nl cl] 25 (0, 0)))
    clear p0 p1
    obtain ⟨p0, p1⟩ := hp.cells
    replace hi := (hi.stay hb12).stay (below_new _ (.cells #[.bool xl, .slice al nl cl] 25 (0, 0)))
    clear i0 i1
    obtain ⟨i0, i1⟩ := hi.cells
    have hl := VI.new kl
    replace hbw := (hbw.step hb12 (Nat.le_refl _)).step (below_new _ (.cells #[.bool xl, .slice al nl cl] 25 (0, 0))) (Nat.le_refl _)
    obtain ⟨l0, l1⟩ := hl.cells
    clear hb12 kl
    clear hi i0 i1
    go_wp2_with fail
    refine (mul_z _ _ za zc zac _ ha.int hc.int Hzac.out).mono ?_
    rintro e w13 ⟨xk, ak, nk, ck, rfl, kk, hb13⟩
    replace ha := (ha.stay hb13).stay (below_new _ (.cells #[.bool xk, .slice ak nk ck] 25 (0, 0)))
    clear a0 a1
    obtain ⟨a0, a1⟩ := ha.cells
    replace hb := (hb.stay hb13).stay (below_new _ (.cells #[.bool xk, .slice ak nk ck] 25 (0, 0)))
    clear b0 b1
    obtain ⟨b0, b1⟩ := hb.cells
    replace hc := (hc.stay hb13).stay (below_new _ (.cells #[.bool xk, .slice ak nk ck] 25 (0, 0)))
    clear c0 c1
    obtain ⟨c0, c1⟩ := hc.cells
    replace hp := (hp.stay hb13).stay (below_new _ (.cells #[.bool xk, .slice ak nk ck] 25 (0, 0)))
    clear p0 p1
    obtain ⟨p0, p1⟩ := hp.cells
    replace hl := (hl.stay hb13).stay (below_new _ (.cells #[.bool xk, .slice ak nk ck] 25 (0, 0)))
    clear l0 l1
    obtain ⟨l0, l1⟩ := hl.cells
    have hk := VI.new kk
    replace hbw := (hbw.step hb13 (Nat.le_refl _)).step (below_new _ (.cells #[.bool xk, .slice ak nk ck] 25 (0, 0))) (Nat.le_refl _)
    obtain ⟨k0, k1⟩ := hk.cells
    clear hb13 kk
    go_wp2_with fail
    refine (add_z _ _ (hz zp) (hz zac) zr _ hp.int hk.int Hzr.out).mono ?_
    rintro e w14 ⟨xr, ar, nr, cr, rfl, kr, hb14⟩
    replace ha := (ha.stay hb14).stay (below_new _ (.cells #[.bool xr, .slice ar nr cr] 25 (0, 0)))
    clear a0 a1
    obtain ⟨a0, a1⟩ := ha.cells
    replace hb := (hb.stay hb14).stay (below_new _ (.cells #[.bool xr, .slice ar nr cr] 25 (0, 0)))
    clear b0 b1
    obtain ⟨b0, b1⟩ := hb.cells
    replace hc := (hc.stay hb14).stay (below_new _ (.cells #[.bool xr, .slice ar nr cr] 25 (0, 0)))
    clear c0 c1
    obtain ⟨c0, c1⟩ := hc.cells
    replace hp := (hp.stay hb14).stay (below_new _ (.cells #[.bool xr, .slice ar nr cr] 25 (0, 0)))
    clear p0 p1
    obtain ⟨p0, p1⟩ := hp.cells
    replace hl := (hl.stay hb14).stay (below_new _ (.cells #[.bool xr, .slice ar nr cr] 25 (0, 0)))
    clear l0 l1
    obtain ⟨l0, l1⟩ := hl.cells
    replace hk := (hk.stay hb14).stay (below_new _ (.cells #[.bool xr, .slice ar nr cr] 25 (0, 0)))
    clear k0 k1
    obtain ⟨k0, k1⟩ := hk.cells
    have hr := VI.new kr
    replace hbw := (hbw.step hb14 (Nat.le_refl _)).step (below_new _ (.cells #[.bool xr, .slice ar nr cr] 25 (0, 0))) (Nat.le_refl _)
    obtain ⟨r0, r1⟩ := hr.cells
    clear hb14 kr
    clear hk k0 k1
    have qS : (ec zab + ec zp + ec zbc + ec zl + ec zac + ec zr != 0) = true := by rw [bne_iff_ne]; have := HE.out; omega
    go_wp2
    go_ret
    exact ⟨rfl, hbw⟩
end Go.Proofs.Yteaejdcnpjhpoab
