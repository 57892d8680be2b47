/- Contract of arith.Pow; it proves no statement of the seat. -/
import Derived.Test.YteaejdcnpjhpoaaVarsZJ
namespace Go.Proofs.Yteaejdcnpjhpoaa
open Go.RowKit

theorem pow_more {x : Int} {m n : Nat} (h : m ≤ n) (hl : ¬ (x ^ m).natAbs < lim) : ¬ (x ^ n).natAbs < lim := by
  rw [Int.natAbs_pow] at hl ⊢
  have h1 := lim_pos
  rcases Nat.eq_zero_or_pos x.natAbs with h0 | h0
  · exfalso
    apply hl
    rw [h0]
    rcases Nat.eq_zero_or_pos m with hm | hm
    · rw [hm, Nat.pow_zero]; have := word_lim; omega
    · rw [Nat.zero_pow hm]; exact h1
  · have := Nat.pow_le_pow_right h0 h
    omega

theorem ec_ne {z : Int} (h : ¬ ec z = 0) : ¬ z.natAbs < lim := fun k => h (ec_of k)
theorem hz_ne {z : Int} (h : ¬ z.natAbs < lim) : hz z = 0 := if_neg h

theorem AInt.zeroed {w : World} {z : Int} (h : ¬ z.natAbs < lim) : AInt w (.agg #[.bool false, .slice none 0 0]) (hz z) := by rw [hz_ne h]; exact AInt.zero w

set_option maxHeartbeats 4000000 in
theorem pow_any (n : Nat) : ∀ (va : Value) (x z : Int) (w : World), AInt w va x → (n : Int) ≤ 9223372036854775807 → x ^ n = z →
    Calls Try.prog 42 #[va, .int .i64 n] w fun e w' => ∃ s a n c, e = .returned (.tuple #[.agg #[.bool s, .slice a n c], .int .i64 (ec z)]) ∧ AInt w' (.agg #[.bool s, .slice a n c]) (hz z) ∧ Below w.heap.size w w' := by
  induction n using Nat.strongRecOn with
  | _ n ih =>
  intro va x z w ha hn hzn
  obtain ⟨xx, ax, nx, cx, rfl⟩ := ha.shape
  have HZ : Hid (x ^ n = z) := hzn
  clear hzn
  have X0 := (Blk.new w 25 #[.bool xx, .slice ax nx cx]).alloc (.cells #[.bool false, .slice none 0 0] 25 (0, 0))
  have R0 := Blk.new (w.alloc (.cells #[.bool xx, .slice ax nx cx] 25 (0, 0))) 25 #[.bool false, .slice none 0 0]
  simp only [World.size_alloc] at R0
  have hbw : Below w.heap.size w ((w.alloc (.cells #[.bool xx, .slice ax nx cx] 25 (0, 0))).alloc (.cells #[.bool false, .slice none 0 0] 25 (0, 0))) := by go_grown
  have ha1 := ha.below hbw
  obtain ⟨r0, r1, rf0, rf1⟩ := R0.two
  by_cases h0 : n = 0
  · subst h0
    have hz1 : z = 1 := by rw [← HZ.out, Int.pow_zero]
    subst hz1
    have e1 : ec 1 = 0 := ec_of (by have := word_lim; simp; omega)
    have e2 : hz 1 = 1 := hz_of (by have := word_lim; simp; omega)
    rw [e1, e2]
    clear e1 e2 HZ ih
    go_enter Try.func42, Try.ntmps42
    go_wp2_with fail
    refine (from_any 1 _ (by decide) (by decide)).mono ?_
    rintro e w1 ⟨v1, rfl, h1, hb1⟩
    obtain ⟨x1, a1, n1, c1, rfl⟩ := h1.shape
    have R1 := R0.stay hb1
    clear r0 r1 rf0 rf1
    obtain ⟨r0, r1, rf0, rf1⟩ := R1.two
    go_wp2
    refine bodyPost_ret (v := .tuple #[.agg #[.bool x1, .slice a1 n1 c1], .int .i64 0]) (by simp [results, Try.results42, go_sem, r0, r1]) rfl ?_
    exact ⟨_, _, _, _, rfl, h1.store2 R1 _ _ _ _, below_store2 (hbw.step hb1 (Nat.le_refl _)) (by omega) _ _⟩
  · have hpos : 0 < n := Nat.pos_of_ne_zero h0
    have q0 : ((n : Int) == 0) = false := by rw [beq_eq_false_iff_ne]; omega
    have hIH : ∀ (va : Value) (x z : Int) (w : World), AInt w va x → x ^ (n / 2) = z → Calls Try.prog 42 #[va, .int .i64 ((n : Int) / 2)] w fun e w' => ∃ s a n c, e = .returned (.tuple #[.agg #[.bool s, .slice a n c], .int .i64 (ec z)]) ∧ AInt w' (.agg #[.bool s, .slice a n c]) (hz z) ∧ Below w.heap.size w w' := by
      intro va x z w h1 h2
      have h3 := ih (n / 2) (by omega) va x z w h1 (by omega) h2
      rw [Int.natCast_ediv] at h3
      exact h3
    have HIH : Hid _ := hIH
    clear ih hIH h0
    obtain ⟨zh, Hh⟩ : ∃ zh, Hid (x ^ (n / 2) = zh) := ⟨_, rfl⟩
    obtain ⟨z2, H2⟩ : ∃ z2, Hid (zh * zh = z2) := ⟨_, rfl⟩
    have H22 : Hid (x ^ (2 * (n / 2)) = z2) := by show _ = _; rw [← H2.out, ← Hh.out, ← Int.pow_add]; congr 1; omega
    have hls : w.heap.size ≤ w.heap.size + 1 := by omega
    go_enter Try.func42, Try.ntmps42
    go_wp2_with fail
    refine (HIH.out _ x zh _ ha1 Hh.out).mono ?_
    rintro e w1 ⟨xh, ah, nh, ch, rfl, kh, hb1⟩
    have hbn := below_new w1 (.cells #[.bool xh, .slice ah nh ch] 25 (0, 0))
    replace X0 := (X0.stay hb1).stay hbn
    replace R0 := (R0.stay hb1).stay hbn
    have hh := VI.new kh
    replace ha1 := (ha1.below hb1).below hbn
    replace hbw := (hbw.step hb1 (Nat.le_refl _)).step hbn (Nat.le_refl _)
    clear r0 r1 rf0 rf1 hbn ha HIH hb1 kh
    obtain ⟨r0, r1, rf0, rf1⟩ := R0.two
    obtain ⟨c0, c1⟩ := hh.cells
    obtain ⟨x0, x1, -, -⟩ := X0.two
    by_cases hE : ec zh = 0
    · have qE : (ec zh != 0) = false := by rw [bne_eq_false_iff_eq]; exact hE
      rw [hz_ec hE] at hh
      clear hE
      go_wp2_with fail
      refine (mul_z _ _ zh zh z2 _ hh.int hh.int H2.out).mono ?_
      rintro e w2 ⟨xp, ap, np, cp, rfl, kp, hb2⟩
      have hbn := below_new w2 (.cells #[.bool xp, .slice ap np cp] 25 (0, 0))
      replace X0 := (X0.stay hb2).stay hbn
      replace R0 := (R0.stay hb2).stay hbn
      have hp := VI.new kp
      replace ha1 := (ha1.below hb2).below hbn
      replace hbw := (hbw.step hb2 (Nat.le_refl _)).step hbn (Nat.le_refl _)
      clear r0 r1 rf0 rf1 hbn hb2 kp hh c0 c1 x0 x1
      obtain ⟨r0, r1, rf0, rf1⟩ := R0.two
      obtain ⟨c0, c1⟩ := hp.cells
      obtain ⟨x0, x1, -, -⟩ := X0.two
      by_cases h2 : ec z2 = 0
      · have q2 : (ec z2 != 0) = false := by rw [bne_eq_false_iff_eq]; exact h2
        have E2 : Hid (ec z2 = 0) := h2
        clear h2
        by_cases hv : n % 2 = 0
        · have qv : ((n : Int) % 2 == 0) = true := by rw [beq_iff_eq]; omega
          have e : z2 = z := by rw [← H22.out, ← HZ.out]; congr 1; omega
          subst e
          clear hv
          go_wp2
          refine bodyPost_ret (v := .tuple #[.agg #[.bool xp, .slice ap np cp], .int .i64 (ec z2)]) (by simp [results, Try.results42, go_sem, r0, r1]) rfl ?_
          exact ⟨_, _, _, _, rfl, hp.int.store2 R0 _ _ _ _, below_store2 hbw hls _ _⟩
        · have qv : ((n : Int) % 2 == 0) = false := by rw [beq_eq_false_iff_ne]; omega
          have HV : Hid (z2 * x = z) := by
            show _ = _
            rw [← H22.out, ← HZ.out, ← Int.pow_succ]; congr 1; omega
          rw [hz_ec E2.out] at hp
          clear hv
          go_wp2_with fail
          refine (mul_z _ _ z2 x z _ hp.int ha1 HV.out).mono ?_
          rintro e w3 ⟨xr, ar, nr, cr, rfl, kr, hb3⟩
          replace R0 := R0.stay hb3
          clear r0 r1 rf0 rf1
          obtain ⟨r0, r1, rf0, rf1⟩ := R0.two
          go_wp2
          refine bodyPost_ret (v := .tuple #[.agg #[.bool xr, .slice ar nr cr], .int .i64 (ec z)]) (by simp [results, Try.results42, go_sem, r0, r1]) rfl ?_
          exact ⟨_, _, _, _, rfl, kr.store2 R0 _ _ _ _, below_store2 (hbw.step hb3 (Nat.le_refl _)) hls _ _⟩
      · have q2 : (ec z2 != 0) = true := by rw [bne_iff_ne]; exact h2
        have n1 := ec_ne h2
        have n2 : ¬ z.natAbs < lim := by rw [← HZ.out]; rw [← H22.out] at n1; exact pow_more (by omega) n1
        have E1 : Hid (ec z2 = ec z ∧ hz z2 = hz z) := ⟨by rw [ec_not n1, ec_not n2], by rw [hz_ne n1, hz_ne n2]⟩
        clear h2 n1 n2
        go_wp2
        refine bodyPost_ret (v := .tuple #[.agg #[.bool xp, .slice ap np cp], .int .i64 (ec z2)]) (by simp [results, Try.results42, go_sem, r0, r1]) rfl ?_
        rw [← E1.out.1, ← E1.out.2]
        exact ⟨_, _, _, _, rfl, hp.int.store2 R0 _ _ _ _, below_store2 hbw hls _ _⟩
    · have qE : (ec zh != 0) = true := by rw [bne_iff_ne]; exact hE
      have n1 := ec_ne hE
      have n2 : ¬ z.natAbs < lim := by rw [← HZ.out]; rw [← Hh.out] at n1; exact pow_more (by omega) n1
      have E1 : Hid (ec zh = ec z ∧ hz z = 0) := ⟨by rw [ec_not n1, ec_not n2], hz_ne n2⟩
      clear hE n1 n2
      go_wp2
      refine bodyPost_ret (v := .tuple #[.agg #[.bool false, .slice none 0 0], .int .i64 (ec zh)]) (by simp [results, Try.results42, go_sem, r0, r1]) rfl ?_
      rw [← E1.out.1, E1.out.2]
      exact ⟨_, _, _, _, rfl, AInt.zero _, below_store2 hbw hls _ _⟩
end Go.Proofs.Yteaejdcnpjhpoaa
