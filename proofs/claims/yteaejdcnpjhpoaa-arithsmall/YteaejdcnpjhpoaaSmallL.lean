/- The walk of suretylaw01.ArithSmall: it answers true at every machine number and every text. -/
import Derived.Test.YteaejdcnpjhpoaaRSmall
import Derived.Test.YteaejdcnpjhpoaaReads
import Derived.OpenShut
namespace Go.Proofs.Yteaejdcnpjhpoaa
open Go.RowKit

set_option maxRecDepth 20000 in
set_option maxHeartbeats 8000000 in
theorem arithSmall_any (n : Int) (s : ByteArray) (w : World) (hn : (Lit.int .i64 n).wf = true) (hs : s.size ≤ maxLen) :
    Calls Try.prog 6 #[.int .i64 n, .string s] w fun e w' => e = .returned (.bool true) ∧ Below w.heap.size w w' := by
  have HN : Hid (-9223372036854775808 ≤ n ∧ n ≤ 9223372036854775807) := bounds_i64 hn
  clear hn
  go_enter Try.func6, Try.ntmps6
  go_wp2_with fail
  refine (awake_any _).mono ?_
  rintro e w1 ⟨rfl, hbw⟩
  go_wp2_with fail
  refine (from_any n _ HN.out.1 HN.out.2).mono ?_
  rintro e w2 ⟨v2, rfl, hv2, hb2⟩
  obtain ⟨xx, ax, nx, cx, rfl⟩ := hv2.shape
  have hx := VI.new hv2
  replace hbw := (hbw.step hb2 (Nat.le_refl _)).step (below_new _ (.cells #[.bool xx, .slice ax nx cx] 25 (0, 0))) (Nat.le_refl _)
  obtain ⟨x0, x1⟩ := hx.cells
  clear hb2 hv2
  go_wp2_with fail
  refine (small_in _ n _ hx.int HN.out.1 HN.out.2).mono ?_
  rintro e w3 ⟨rfl, hb3⟩
  replace hx := hx.stay hb3
  replace hbw := hbw.step hb3 (Nat.le_refl _)
  clear x0 x1 hb3
  obtain ⟨x0, x1⟩ := hx.cells
  go_wp2_with fail
  refine (text_a _ n _ hx.int).mono ?_
  rintro e w4 ⟨S4, rfl, hS4, hb4⟩
  replace hbw := hbw.step hb4 (Nat.le_refl _)
  clear hx x0 x1 hb4
  go_wp2_with fail
  refine (rfrom_any n _ HN.out.1 HN.out.2).mono ?_
  rintro e w5 ⟨s5, a5, m5, c5, rfl, h5, hb5⟩
  replace hbw := hbw.step hb5 (Nat.le_refl _)
  clear hb5
  go_wp2_with fail
  refine (show_a _ n 20 _ h5 (by decide)).mono ?_
  rintro e w6 ⟨S6, rfl, hS6, hb6⟩
  replace hbw := hbw.step hb6 (Nat.le_refl _)
  have t6 : (S4.toList == S6.toList) = true := text_two hS4 hS6
  clear hb6 h5 hS4 hS6
  go_wp2_with fail
  refine (num_h s _ hs).mono ?_
  rintro e w7 ⟨za, xa, aa, na, ca, ya, da, ma, fa, rfl, ka, ra, hb7⟩
  have ha := (VI.new ka).stay (below_new _ (.cells #[.bool ya, .slice da ma fa] 31 (0, 0)))
  have hr := (ra.below (below_new _ (.cells #[.bool xa, .slice aa na ca] 25 (0, 0)))).below (below_new _ (.cells #[.bool ya, .slice da ma fa] 31 (0, 0)))
  have R0 := Blk.new (w7.alloc (.cells #[.bool xa, .slice aa na ca] 25 (0, 0))) 31 #[.bool ya, .slice da ma fa]
  simp only [World.size_alloc] at R0
  replace hbw := ((hbw.step hb7 (Nat.le_refl _)).step (below_new _ (.cells #[.bool xa, .slice aa na ca] 25 (0, 0))) (Nat.le_refl _)).step (below_new _ (.cells #[.bool ya, .slice da ma fa] 31 (0, 0))) (Nat.le_refl _)
  obtain ⟨a0, a1⟩ := ha.cells
  obtain ⟨r0, r1, -, -⟩ := R0.two
  clear hb7 ka ra t6
  by_cases hz' : -9223372036854775808 ≤ za ∧ za ≤ 9223372036854775807
  · have HZ : Hid (-9223372036854775808 ≤ za ∧ za ≤ 9223372036854775807) := hz'
    clear hz'
    go_wp2_with fail
    refine (small_in _ za _ ha.int HZ.out.1 HZ.out.2).mono ?_
    rintro e w8 ⟨rfl, hb8⟩
    replace R0 := R0.stay hb8
    replace hr := hr.below hb8
    replace hbw := hbw.step hb8 (Nat.le_refl _)
    clear a0 a1 r0 r1 hb8 ha
    obtain ⟨r0, r1, -, -⟩ := R0.two
    go_wp2_with fail
    refine (rsmall_in _ za _ hr HZ.out.1 HZ.out.2).mono ?_
    rintro e w9 ⟨rfl, hb9⟩
    replace hbw := hbw.step hb9 (Nat.le_refl _)
    clear r0 r1 hb9 R0 hr
    go_wp2
    go_ret
    exact ⟨rfl, hbw⟩
  · have HZ : Hid (za < -9223372036854775808 ∨ 9223372036854775807 < za) := by show _ ∨ _; omega
    clear hz'
    go_wp2_with fail
    refine (small_out _ za _ ha.int HZ.out).mono ?_
    rintro e w8 ⟨rfl, hb8⟩
    replace R0 := R0.stay hb8
    replace hr := hr.below hb8
    replace hbw := hbw.step hb8 (Nat.le_refl _)
    clear a0 a1 r0 r1 hb8 ha
    obtain ⟨r0, r1, -, -⟩ := R0.two
    go_wp2_with fail
    refine (rsmall_out _ za _ hr HZ.out).mono ?_
    rintro e w9 ⟨rfl, hb9⟩
    replace hbw := hbw.step hb9 (Nat.le_refl _)
    clear r0 r1 hb9 R0 hr
    go_wp2
    go_ret
    exact ⟨rfl, hbw⟩
end Go.Proofs.Yteaejdcnpjhpoaa
