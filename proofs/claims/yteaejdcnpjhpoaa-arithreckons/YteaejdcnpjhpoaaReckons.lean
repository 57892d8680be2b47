/- The walk of suretylaw01.ArithReckons: it answers true at every two texts. -/
import Derived.Test.YteaejdcnpjhpoaaRDivZ
import Derived.Test.YteaejdcnpjhpoaaRGcd
import Derived.Test.YteaejdcnpjhpoaaRAdd
import Derived.Test.YteaejdcnpjhpoaaRMul
import Derived.Test.YteaejdcnpjhpoaaGcd2
import Derived.Test.YteaejdcnpjhpoaaReads
import Derived.OpenShut
namespace Go.Proofs.Yteaejdcnpjhpoaa
open Go.RowKit

/-- A variable that holds a suretyref01.Num. -/
def VR (w : World) (b : Nat) (x : Bool) (a : Option Addr) (n c : Nat) (z : Int) (L : Nat) : Prop :=
  Blk 31 w b #[.bool x, .slice a n c] ∧ RNum w (.agg #[.bool x, .slice a n c]) z L
theorem VR.stay {w w' : World} {b : Nat} {x : Bool} {a : Option Addr} {n c : Nat} {z : Int} {L : Nat} (h : VR w b x a n c z L) (hb : Below w.heap.size w w') : VR w' b x a n c z L := ⟨h.1.stay hb, h.2.below hb⟩
theorem VR.num {w : World} {b : Nat} {x : Bool} {a : Option Addr} {n c : Nat} {z : Int} {L : Nat} (h : VR w b x a n c z L) : RNum w (.agg #[.bool x, .slice a n c]) z L := h.2
theorem VR.cells {w : World} {b : Nat} {x : Bool} {a : Option Addr} {n c : Nat} {z : Int} {L : Nat} (h : VR w b x a n c z L) : w.cell? ⟨b, 0, none⟩ = some (.bool x) ∧ w.cell? ⟨b, 1, none⟩ = some (.slice a n c) := ⟨h.1.two.1, h.1.two.2.1⟩
theorem VR.new {w : World} {x : Bool} {a : Option Addr} {n c : Nat} {z : Int} {L : Nat} (h : RNum w (.agg #[.bool x, .slice a n c]) z L) : VR (w.alloc (.cells #[.bool x, .slice a n c] 31 (0, 0))) w.heap.size x a n c z L :=
  ⟨Blk.new _ _ _, h.below (below_new _ _)⟩
theorem keep4m {t t' : TypeId} {W0 w' : World} {b1 b2 b3 b4 : Nat} {p1 q1 p2 q2 p3 q3 p4 q4 : Value} (h1 : Blk t W0 b1 #[p1, q1]) (h2 : Blk t W0 b2 #[p2, q2]) (h3 : Blk t' W0 b3 #[p3, q3]) (h4 : Blk t' W0 b4 #[p4, q4]) (h : Below W0.heap.size W0 w') :
    Below W0.heap.size W0 w' ∧ w'.cell? ⟨b1, 0, none⟩ = some p1 ∧ w'.cell? ⟨b1, 1, none⟩ = some q1 ∧ w'.cell? ⟨b2, 0, none⟩ = some p2 ∧ w'.cell? ⟨b2, 1, none⟩ = some q2 ∧ w'.cell? ⟨b3, 0, none⟩ = some p3 ∧ w'.cell? ⟨b3, 1, none⟩ = some q3 ∧ w'.cell? ⟨b4, 0, none⟩ = some p4 ∧ w'.cell? ⟨b4, 1, none⟩ = some q4 :=
  ⟨h, (h1.stay h).two.1, (h1.stay h).two.2.1, (h2.stay h).two.1, (h2.stay h).two.2.1, (h3.stay h).two.1, (h3.stay h).two.2.1, (h4.stay h).two.1, (h4.stay h).two.2.1⟩

set_option maxRecDepth 20000 in
set_option maxHeartbeats 16000000 in
theorem arithReckons_any (s t : ByteArray) (w : World) (hs : s.size ≤ maxLen) (ht : t.size ≤ maxLen) :
    Calls Try.prog 4 #[.string s, .string t] w fun e w' => e = .returned (.bool true) ∧ Below w.heap.size w w' := by
  go_enter Try.func4, Try.ntmps4
  go_wp2_with fail
  refine (awake_any _).mono ?_
  rintro e w0 ⟨rfl, hbw⟩
  go_wp2_with fail
  refine (num_h s _ (by assumption)).mono ?_
  rintro e w1 ⟨za, xa, aa, na, ca, xx, ax, nx, cx, rfl, ka, kx, hb1⟩
  have hn1 := below_new w1 (.cells #[.bool xa, .slice aa na ca] 25 (0, 0))
  have hn2 := below_new (w1.alloc (.cells #[.bool xa, .slice aa na ca] 25 (0, 0))) (.cells #[.bool xx, .slice ax nx cx] 31 (0, 0))
  replace hbw := hbw.step hb1 (Nat.le_refl _)
  replace hbw := hbw.step hn1 (Nat.le_refl _)
  replace hbw := hbw.step hn2 (Nat.le_refl _)
  have ha := (VI.new ka).stay hn2
  have hx := VR.new (kx.below hn1)
  simp only [World.size_alloc] at hx
  clear hb1 ka kx hn1 hn2
  go_wp2_with fail
  refine (num_h t _ (by assumption)).mono ?_
  rintro e w2 ⟨zb, xb, ab, nb, cb, xy, ay, ny, cy, rfl, kb, ky, hb2⟩
  have hn1 := below_new w2 (.cells #[.bool xb, .slice ab nb cb] 25 (0, 0))
  have hn2 := below_new (w2.alloc (.cells #[.bool xb, .slice ab nb cb] 25 (0, 0))) (.cells #[.bool xy, .slice ay ny cy] 31 (0, 0))
  replace ha := (((ha.stay hb2).stay hn1).stay hn2)
  replace hx := (((hx.stay hb2).stay hn1).stay hn2)
  replace hbw := hbw.step hb2 (Nat.le_refl _)
  replace hbw := hbw.step hn1 (Nat.le_refl _)
  replace hbw := hbw.step hn2 (Nat.le_refl _)
  have hb := (VI.new kb).stay hn2
  have hy := VR.new (ky.below hn1)
  simp only [World.size_alloc] at hy
  clear hb2 kb ky hn1 hn2
  obtain ⟨a0, a1⟩ := ha.cells
  obtain ⟨b0, b1⟩ := hb.cells
  go_wp2_with fail
  refine (add_h _ _ za zb _ ha.int hb.int).mono ?_
  rintro e w3 ⟨xp, ap, np, cp, rfl, kp, hb3⟩
  clear a0 a1
  clear b0 b1
  have hn1 := below_new w3 (.cells #[.bool xp, .slice ap np cp] 25 (0, 0))
  replace ha := ((ha.stay hb3).stay hn1)
  replace hx := ((hx.stay hb3).stay hn1)
  replace hb := ((hb.stay hb3).stay hn1)
  replace hy := ((hy.stay hb3).stay hn1)
  replace hbw := hbw.step hb3 (Nat.le_refl _)
  replace hbw := hbw.step hn1 (Nat.le_refl _)
  have hp := VI.new kp
  clear hb3 kp hn1
  obtain ⟨a0, a1⟩ := ha.cells
  obtain ⟨b0, b1⟩ := hb.cells
  go_wp2_with fail
  refine (subI_h _ _ za zb _ ha.int hb.int).mono ?_
  rintro e w4 ⟨xq, aq, nq, cq, rfl, kq, hb4⟩
  clear a0 a1
  clear b0 b1
  have hn1 := below_new w4 (.cells #[.bool xq, .slice aq nq cq] 25 (0, 0))
  replace ha := ((ha.stay hb4).stay hn1)
  replace hx := ((hx.stay hb4).stay hn1)
  replace hb := ((hb.stay hb4).stay hn1)
  replace hy := ((hy.stay hb4).stay hn1)
  replace hp := ((hp.stay hb4).stay hn1)
  replace hbw := hbw.step hb4 (Nat.le_refl _)
  replace hbw := hbw.step hn1 (Nat.le_refl _)
  have hq := VI.new kq
  clear hb4 kq hn1
  obtain ⟨a0, a1⟩ := ha.cells
  obtain ⟨b0, b1⟩ := hb.cells
  go_wp2_with fail
  refine (mul_h _ _ za zb _ ha.int hb.int).mono ?_
  rintro e w5 ⟨xr, ar, nr, cr, rfl, kr, hb5⟩
  clear a0 a1
  clear b0 b1
  have hn1 := below_new w5 (.cells #[.bool xr, .slice ar nr cr] 25 (0, 0))
  replace ha := ((ha.stay hb5).stay hn1)
  replace hx := ((hx.stay hb5).stay hn1)
  replace hb := ((hb.stay hb5).stay hn1)
  replace hy := ((hy.stay hb5).stay hn1)
  replace hp := ((hp.stay hb5).stay hn1)
  replace hq := ((hq.stay hb5).stay hn1)
  replace hbw := hbw.step hb5 (Nat.le_refl _)
  replace hbw := hbw.step hn1 (Nat.le_refl _)
  have hr := VI.new kr
  clear hb5 kr hn1
  obtain ⟨a0, a1⟩ := ha.cells
  obtain ⟨b0, b1⟩ := hb.cells
  go_wp2_with fail
  refine (div_u _ _ za zb _ ha.int hb.int).mono ?_
  rintro e w6 ⟨xu, au, nu, cu, xv, av, nv, cv, rfl, ku, kv, hb6⟩
  clear a0 a1
  clear b0 b1
  have hn1 := below_new w6 (.cells #[.bool xu, .slice au nu cu] 25 (0, 0))
  have hn2 := below_new (w6.alloc (.cells #[.bool xu, .slice au nu cu] 25 (0, 0))) (.cells #[.bool xv, .slice av nv cv] 25 (0, 0))
  replace ha := (((ha.stay hb6).stay hn1).stay hn2)
  replace hx := (((hx.stay hb6).stay hn1).stay hn2)
  replace hb := (((hb.stay hb6).stay hn1).stay hn2)
  replace hy := (((hy.stay hb6).stay hn1).stay hn2)
  replace hp := (((hp.stay hb6).stay hn1).stay hn2)
  replace hq := (((hq.stay hb6).stay hn1).stay hn2)
  replace hr := (((hr.stay hb6).stay hn1).stay hn2)
  replace hbw := hbw.step hb6 (Nat.le_refl _)
  replace hbw := hbw.step hn1 (Nat.le_refl _)
  replace hbw := hbw.step hn2 (Nat.le_refl _)
  have hu := (VI.new ku).stay hn2
  have hv := VI.new (kv.below hn1)
  simp only [World.size_alloc] at hv
  clear hb6 ku kv hn1 hn2
  obtain ⟨x0, x1⟩ := hx.cells
  obtain ⟨y0, y1⟩ := hy.cells
  go_wp2_with fail
  refine (rAdd_any _ _ za zb _ 400 400 _ hx.num hy.num (by decide) rfl).mono ?_
  rintro e w7 ⟨ssu, tsu, msu, fsu, rfl, gsu, hb7⟩
  clear x0 x1
  clear y0 y1
  replace ha := (ha.stay hb7)
  replace hx := (hx.stay hb7)
  replace hb := (hb.stay hb7)
  replace hy := (hy.stay hb7)
  replace hp := (hp.stay hb7)
  replace hq := (hq.stay hb7)
  replace hr := (hr.stay hb7)
  replace hu := (hu.stay hb7)
  replace hv := (hv.stay hb7)
  replace hbw := hbw.step hb7 (Nat.le_refl _)
  clear hb7
  go_wp2_with fail
  refine (rHeld_any _ (za + zb) 801 _ gsu (by decide)).mono ?_
  rintro e w8 ⟨xsu, asu, nsu, csu, rfl, ksu, hb8⟩
  clear gsu
  have hn1 := below_new w8 (.cells #[.bool xsu, .slice asu nsu csu] 31 (0, 0))
  replace ha := ((ha.stay hb8).stay hn1)
  replace hx := ((hx.stay hb8).stay hn1)
  replace hb := ((hb.stay hb8).stay hn1)
  replace hy := ((hy.stay hb8).stay hn1)
  replace hp := ((hp.stay hb8).stay hn1)
  replace hq := ((hq.stay hb8).stay hn1)
  replace hr := ((hr.stay hb8).stay hn1)
  replace hu := ((hu.stay hb8).stay hn1)
  replace hv := ((hv.stay hb8).stay hn1)
  replace hbw := hbw.step hb8 (Nat.le_refl _)
  replace hbw := hbw.step hn1 (Nat.le_refl _)
  have hsu := VR.new ksu
  clear hb8 ksu hn1
  obtain ⟨x0, x1⟩ := hx.cells
  obtain ⟨y0, y1⟩ := hy.cells
  go_wp2_with fail
  refine (rSub_any _ _ za zb _ 400 400 _ hx.num hy.num (by decide) rfl).mono ?_
  rintro e w9 ⟨sdi, tdi, mdi, fdi, rfl, gdi, hb9⟩
  clear x0 x1
  clear y0 y1
  replace ha := (ha.stay hb9)
  replace hx := (hx.stay hb9)
  replace hb := (hb.stay hb9)
  replace hy := (hy.stay hb9)
  replace hp := (hp.stay hb9)
  replace hq := (hq.stay hb9)
  replace hr := (hr.stay hb9)
  replace hu := (hu.stay hb9)
  replace hv := (hv.stay hb9)
  replace hsu := (hsu.stay hb9)
  replace hbw := hbw.step hb9 (Nat.le_refl _)
  clear hb9
  go_wp2_with fail
  refine (rHeld_any _ (za - zb) 801 _ gdi (by decide)).mono ?_
  rintro e w10 ⟨xdi, adi, ndi, cdi, rfl, kdi, hb10⟩
  clear gdi
  have hn1 := below_new w10 (.cells #[.bool xdi, .slice adi ndi cdi] 31 (0, 0))
  replace ha := ((ha.stay hb10).stay hn1)
  replace hx := ((hx.stay hb10).stay hn1)
  replace hb := ((hb.stay hb10).stay hn1)
  replace hy := ((hy.stay hb10).stay hn1)
  replace hp := ((hp.stay hb10).stay hn1)
  replace hq := ((hq.stay hb10).stay hn1)
  replace hr := ((hr.stay hb10).stay hn1)
  replace hu := ((hu.stay hb10).stay hn1)
  replace hv := ((hv.stay hb10).stay hn1)
  replace hsu := ((hsu.stay hb10).stay hn1)
  replace hbw := hbw.step hb10 (Nat.le_refl _)
  replace hbw := hbw.step hn1 (Nat.le_refl _)
  have hdi := VR.new kdi
  clear hb10 kdi hn1
  obtain ⟨x0, x1⟩ := hx.cells
  obtain ⟨y0, y1⟩ := hy.cells
  go_wp2_with fail
  refine (rMul_any _ _ za zb _ 400 400 _ hx.num hy.num (by decide) rfl).mono ?_
  rintro e w11 ⟨spr, tpr, mpr, fpr, rfl, gpr, hb11⟩
  clear x0 x1
  clear y0 y1
  replace ha := (ha.stay hb11)
  replace hx := (hx.stay hb11)
  replace hb := (hb.stay hb11)
  replace hy := (hy.stay hb11)
  replace hp := (hp.stay hb11)
  replace hq := (hq.stay hb11)
  replace hr := (hr.stay hb11)
  replace hu := (hu.stay hb11)
  replace hv := (hv.stay hb11)
  replace hsu := (hsu.stay hb11)
  replace hdi := (hdi.stay hb11)
  replace hbw := hbw.step hb11 (Nat.le_refl _)
  clear hb11
  go_wp2_with fail
  refine (rHeld_any _ (za * zb) 801 _ gpr (by decide)).mono ?_
  rintro e w12 ⟨xpr, apr, npr, cpr, rfl, kpr, hb12⟩
  clear gpr
  have hn1 := below_new w12 (.cells #[.bool xpr, .slice apr npr cpr] 31 (0, 0))
  replace ha := ((ha.stay hb12).stay hn1)
  replace hx := ((hx.stay hb12).stay hn1)
  replace hb := ((hb.stay hb12).stay hn1)
  replace hy := ((hy.stay hb12).stay hn1)
  replace hp := ((hp.stay hb12).stay hn1)
  replace hq := ((hq.stay hb12).stay hn1)
  replace hr := ((hr.stay hb12).stay hn1)
  replace hu := ((hu.stay hb12).stay hn1)
  replace hv := ((hv.stay hb12).stay hn1)
  replace hsu := ((hsu.stay hb12).stay hn1)
  replace hdi := ((hdi.stay hb12).stay hn1)
  replace hbw := hbw.step hb12 (Nat.le_refl _)
  replace hbw := hbw.step hn1 (Nat.le_refl _)
  have hpr := VR.new kpr
  clear hb12 kpr hn1
  obtain ⟨x0, x1⟩ := hx.cells
  obtain ⟨y0, y1⟩ := hy.cells
  go_wp2_with fail
  refine (rDiv_u _ _ za zb _ hx.num hy.num).mono ?_
  rintro e w13 ⟨xqu, aqu, nqu, cqu, xre, are, nre, cre, rfl, kqu, kre, hb13⟩
  clear x0 x1
  clear y0 y1
  have hn1 := below_new w13 (.cells #[.bool xqu, .slice aqu nqu cqu] 31 (0, 0))
  have hn2 := below_new (w13.alloc (.cells #[.bool xqu, .slice aqu nqu cqu] 31 (0, 0))) (.cells #[.bool xre, .slice are nre cre] 31 (0, 0))
  replace ha := (((ha.stay hb13).stay hn1).stay hn2)
  replace hx := (((hx.stay hb13).stay hn1).stay hn2)
  replace hb := (((hb.stay hb13).stay hn1).stay hn2)
  replace hy := (((hy.stay hb13).stay hn1).stay hn2)
  replace hp := (((hp.stay hb13).stay hn1).stay hn2)
  replace hq := (((hq.stay hb13).stay hn1).stay hn2)
  replace hr := (((hr.stay hb13).stay hn1).stay hn2)
  replace hu := (((hu.stay hb13).stay hn1).stay hn2)
  replace hv := (((hv.stay hb13).stay hn1).stay hn2)
  replace hsu := (((hsu.stay hb13).stay hn1).stay hn2)
  replace hdi := (((hdi.stay hb13).stay hn1).stay hn2)
  replace hpr := (((hpr.stay hb13).stay hn1).stay hn2)
  replace hbw := hbw.step hb13 (Nat.le_refl _)
  replace hbw := hbw.step hn1 (Nat.le_refl _)
  replace hbw := hbw.step hn2 (Nat.le_refl _)
  have hqu := (VR.new kqu).stay hn2
  have hre := VR.new (kre.below hn1)
  simp only [World.size_alloc] at hre
  clear hb13 kqu kre hn1 hn2
  obtain ⟨p0, p1⟩ := hp.cells
  obtain ⟨su0, su1⟩ := hsu.cells
  go_wp2_with fail
  refine (same_yes _ _ (ec (za + zb)) (hz (za + zb)) 400 _ hp.int hsu.num (by decide)).mono ?_
  rintro e w14 ⟨rfl, hb14⟩
  clear p0 p1
  clear su0 su1
  clear hp hsu
  replace ha := (ha.stay hb14)
  replace hx := (hx.stay hb14)
  replace hb := (hb.stay hb14)
  replace hy := (hy.stay hb14)
  replace hq := (hq.stay hb14)
  replace hr := (hr.stay hb14)
  replace hu := (hu.stay hb14)
  replace hv := (hv.stay hb14)
  replace hdi := (hdi.stay hb14)
  replace hpr := (hpr.stay hb14)
  replace hqu := (hqu.stay hb14)
  replace hre := (hre.stay hb14)
  replace hbw := hbw.step hb14 (Nat.le_refl _)
  clear hb14
  obtain ⟨q0, q1⟩ := hq.cells
  obtain ⟨di0, di1⟩ := hdi.cells
  go_wp2_with fail
  refine (same_yes _ _ (ec (za - zb)) (hz (za - zb)) 400 _ hq.int hdi.num (by decide)).mono ?_
  rintro e w15 ⟨rfl, hb15⟩
  clear q0 q1
  clear di0 di1
  clear hq hdi
  replace ha := (ha.stay hb15)
  replace hx := (hx.stay hb15)
  replace hb := (hb.stay hb15)
  replace hy := (hy.stay hb15)
  replace hr := (hr.stay hb15)
  replace hu := (hu.stay hb15)
  replace hv := (hv.stay hb15)
  replace hpr := (hpr.stay hb15)
  replace hqu := (hqu.stay hb15)
  replace hre := (hre.stay hb15)
  replace hbw := hbw.step hb15 (Nat.le_refl _)
  clear hb15
  obtain ⟨r0, r1⟩ := hr.cells
  obtain ⟨pr0, pr1⟩ := hpr.cells
  go_wp2_with fail
  refine (same_yes _ _ (ec (za * zb)) (hz (za * zb)) 400 _ hr.int hpr.num (by decide)).mono ?_
  rintro e w16 ⟨rfl, hb16⟩
  clear r0 r1
  clear pr0 pr1
  clear hr hpr
  replace ha := (ha.stay hb16)
  replace hx := (hx.stay hb16)
  replace hb := (hb.stay hb16)
  replace hy := (hy.stay hb16)
  replace hu := (hu.stay hb16)
  replace hv := (hv.stay hb16)
  replace hqu := (hqu.stay hb16)
  replace hre := (hre.stay hb16)
  replace hbw := hbw.step hb16 (Nat.le_refl _)
  clear hb16
  obtain ⟨u0, u1⟩ := hu.cells
  obtain ⟨qu0, qu1⟩ := hqu.cells
  go_wp2_with fail
  refine (same_yes _ _ (dc zb) (dq za zb) 1000 _ hu.int hqu.num (by decide)).mono ?_
  rintro e w17 ⟨rfl, hb17⟩
  clear u0 u1
  clear qu0 qu1
  clear hu hqu
  replace ha := (ha.stay hb17)
  replace hx := (hx.stay hb17)
  replace hb := (hb.stay hb17)
  replace hy := (hy.stay hb17)
  replace hv := (hv.stay hb17)
  replace hre := (hre.stay hb17)
  replace hbw := hbw.step hb17 (Nat.le_refl _)
  clear hb17
  obtain ⟨v0, v1⟩ := hv.cells
  obtain ⟨re0, re1⟩ := hre.cells
  go_wp2_with fail
  refine (same_yes _ _ (dc zb) (dr za zb) 1000 _ hv.int hre.num (by decide)).mono ?_
  rintro e w18 ⟨rfl, hb18⟩
  clear v0 v1
  clear re0 re1
  clear hv hre
  replace ha := (ha.stay hb18)
  replace hx := (hx.stay hb18)
  replace hb := (hb.stay hb18)
  replace hy := (hy.stay hb18)
  replace hbw := hbw.step hb18 (Nat.le_refl _)
  clear hb18
  go_wp2
  go_region_held3 (fun w' => Below w18.heap.size w18 w' ∧ w'.cell? ⟨w1.heap.size, 0, none⟩ = some (.bool xa) ∧ w'.cell? ⟨w1.heap.size, 1, none⟩ = some (.slice aa na ca) ∧ w'.cell? ⟨w2.heap.size, 0, none⟩ = some (.bool xb) ∧ w'.cell? ⟨w2.heap.size, 1, none⟩ = some (.slice ab nb cb) ∧ w'.cell? ⟨(w1.heap.size + 1), 0, none⟩ = some (.bool xx) ∧ w'.cell? ⟨(w1.heap.size + 1), 1, none⟩ = some (.slice ax nx cx) ∧ w'.cell? ⟨(w2.heap.size + 1), 0, none⟩ = some (.bool xy) ∧ w'.cell? ⟨(w2.heap.size + 1), 1, none⟩ = some (.slice ay ny cy))
    ((refine keep4m ha.1 hb.1 hx.1 hy.1 ?_; repeat' (first | assumption | exact Below.refl _ _ | refine Below.drew ?_)))
    (first
      | (go_at_call 24; refine (gcd_h _ _ za zb _ _ (ha.int.below (And.left (by assumption))) (hb.int.below (And.left (by assumption))) rfl).mono ?_; rintro e u1 ⟨s1, a1, m1, c1, rfl, hp1, hu1⟩; have hB1 := keepl (by assumption) hu1)
      | (go_at_call 13; refine (text_a _ _ _ hp1).mono ?_; rintro e u2 ⟨S2, rfl, hS2, hu2⟩; have hB2 := keepl (by assumption) hu2)
      | (go_at_call 26; refine (rGcd_any _ _ za zb _ _ (hx.num.below (And.left (by assumption))) (hy.num.below (And.left (by assumption))) rfl).mono ?_; rintro e u3 ⟨s3, a3, m3, c3, rfl, hp3, hu3⟩; have hB3 := keepl (by assumption) hu3)
      | (go_at_call 25; refine (show_a _ _ 400 _ hp3 (by decide)).mono ?_; rintro e u4 ⟨S4, rfl, hS4, hu4⟩; have hB4 := keepl (by assumption) hu4; have t4 : (S2.toList == S4.toList) = true := text_two hS2 hS4))
  go_wp2
  go_ret
  exact ⟨rfl, hbw.step hB4 (Nat.le_refl _)⟩
end Go.Proofs.Yteaejdcnpjhpoaa
