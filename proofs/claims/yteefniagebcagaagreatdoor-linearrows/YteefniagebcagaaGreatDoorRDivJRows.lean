/- Contract of suretyref01.Div; it proves no statement of the seat. -/
import Derived.Test.YteefniagebcagaaGreatDoorRTwoJRows
namespace Go.Proofs.YteefniagebcagaaGreatDoor
open Go.RowKit

set_option maxRecDepth 20000 in
set_option maxHeartbeats 16000000 in
theorem rDiv_L (va vb : Value) (x y : Int) (L : Nat) (w : World) (ha : RNum w va x L) (hb : RNum w vb y L) (hL : L ≤ 4000) (hy0 : y ≠ 0) :
    Calls Tryz.prog 84 #[va, vb] w fun e w' => ∃ s a n c s' a' n' c', e = .returned (.tuple #[.agg #[.bool s, .slice a n c], .agg #[.bool s', .slice a' n' c'], .int .i64 0]) ∧ RNum w' (.agg #[.bool s, .slice a n c]) (x.fdiv y) (2 * L + 30) ∧ RNum w' (.agg #[.bool s', .slice a' n' c']) (x.fmod y) (2 * L + 30) ∧ Below w.heap.size w w' := by
  have hb0 := hb
  obtain ⟨na, xs, hva, hxe, hxl⟩ := ha
  obtain ⟨nb, ys, hvb, hye, hyl⟩ := hb
  obtain ⟨ao, cap, rfl, h1, h2, h4, hs, hd, hn, h3, -⟩ := hva
  obtain ⟨bo, cap', rfl, k1, k2, k4, ks, kd, kn, k3, -⟩ := hvb
  have hm0 : 0 < ys.length := by
    rcases Nat.eq_zero_or_pos ys.length with k | k
    · have : ys = [] := List.eq_nil_of_length_eq_zero k
      subst this
      exact absurd (by rw [hye, val_nil, sv_zero]) hy0
    · exact k
  have HY0 : Hid (0 < val 10 ys) := (kn.pos (B := 10) (List.ne_nil_of_length_pos hm0)).resolve_right (by decide)
  have q0 : (((ys.length : Nat) : Int) == 0) = false := by rw [beq_eq_false_iff_ne]; omega
  have HXY : Hid (x = sv na (val 10 xs) ∧ y = sv nb (val 10 ys)) := ⟨hxe, hye⟩
  clear hxe hye h3 k3 h4 k4 hy0
  have A0 := (((Blk.new w 39 #[.bool na, .slice ao xs.length cap]).alloc (.cells #[.bool nb, .slice bo ys.length cap'] 39 (0, 0))).alloc (.cells #[.bool false, .slice none 0 0] 39 (0, 0))).alloc (.cells #[.bool false, .slice none 0 0] 39 (0, 0))
  have B0 := ((Blk.new (w.alloc (.cells #[.bool na, .slice ao xs.length cap] 39 (0, 0))) 39 #[.bool nb, .slice bo ys.length cap']).alloc (.cells #[.bool false, .slice none 0 0] 39 (0, 0))).alloc (.cells #[.bool false, .slice none 0 0] 39 (0, 0))
  have Q0 := (Blk.new ((w.alloc (.cells #[.bool na, .slice ao xs.length cap] 39 (0, 0))).alloc (.cells #[.bool nb, .slice bo ys.length cap'] 39 (0, 0))) 39 #[.bool false, .slice none 0 0]).alloc (.cells #[.bool false, .slice none 0 0] 39 (0, 0))
  have R0 := Blk.new (((w.alloc (.cells #[.bool na, .slice ao xs.length cap] 39 (0, 0))).alloc (.cells #[.bool nb, .slice bo ys.length cap'] 39 (0, 0))).alloc (.cells #[.bool false, .slice none 0 0] 39 (0, 0))) 39 #[.bool false, .slice none 0 0]
  simp only [World.size_alloc] at B0 Q0 R0
  have hbw : Below w.heap.size w ((((w.alloc (.cells #[.bool na, .slice ao xs.length cap] 39 (0, 0))).alloc (.cells #[.bool nb, .slice bo ys.length cap'] 39 (0, 0))).alloc (.cells #[.bool false, .slice none 0 0] 39 (0, 0))).alloc (.cells #[.bool false, .slice none 0 0] 39 (0, 0))) := by go_grown
  go_enter Tryz.func84, Tryz.ntmps84
  go_wp2_with fail
  refine (rsplit_any ao bo xs.length ys.length cap cap' xs ys _ rfl rfl (by omega) (by omega) (hs.below hbw) (ks.below hbw) hd kd kn hm0).mono ?_
  rintro e w1 ⟨pa, pc, ls, qs, rfl, hql, hqd, hqv, hqr, hD, hlv, hb1⟩
  have A1 := A0.stay hb1
  have B1 := B0.stay hb1
  have Q1 := Q0.stay hb1
  have R1 := R0.stay hb1
  obtain ⟨a0, a1, -, -⟩ := A1.two
  obtain ⟨b0, b1, -, -⟩ := B1.two
  simp only [World.size_alloc] at hqr
  have HQ : Hid2 (qs.length = xs.length ∧ val 10 qs = val 10 xs / val 10 ys ∧ Row .i64 3 w1 (w.heap.size + 1 + 1 + 1 + 1) qs) := ⟨hql, hqv, hqr⟩
  have HLV : Hid2 (val 10 ls = val 10 xs % val 10 ys ∧ ls.length ≤ L) := ⟨hlv, by have h5 := norm_len10 (p := ys.length) hD.2.2.2.2.2 (by rw [hlv]; exact Nat.lt_trans (Nat.mod_lt _ HY0.out) (val_lt kd)); omega⟩
  replace hbw := hbw.step hb1 (Nat.le_refl _)
  have hbv := hb0.below hbw
  clear A0 B0 Q0 R0 hb1 hql hqv hqr hlv hb0
  go_wp2
  go_cut [9, 10] (fun p9 p10 wx => ∃ b9 b10 s9 a9 n9 c9 s10 a10 n10 c10, p9 = .pointer (some ⟨b9, 0, none⟩) ∧ p10 = .pointer (some ⟨b10, 0, none⟩) ∧ w1.heap.size ≤ b9 ∧ w1.heap.size ≤ b10 ∧ Blk 39 wx b9 #[.bool s9, .slice a9 n9 c9] ∧ Blk 39 wx b10 #[.bool s10, .slice a10 n10 c10] ∧
      RNum wx (.agg #[.bool s9, .slice a9 n9 c9]) (sv (!(na == nb)) (val 10 xs / val 10 ys)) L ∧ RNum wx (.agg #[.bool s10, .slice a10 n10 c10]) (sv na (val 10 xs % val 10 ys)) L ∧ Below w1.heap.size w1 wx)
  case first =>
    go_region_held3 (fun w' => w'.cell? ⟨w.heap.size, 0, none⟩ = some (.bool na) ∧ w'.cell? ⟨w.heap.size + 1, 0, none⟩ = some (.bool nb) ∧ Below w1.heap.size w1 w')
      ((refine keepD A1 B1 ?_; repeat' (first | assumption | exact Below.refl _ _ | refine Below.drew ?_ | refine below_alloc _ ?_ _ | refine Below.setCell ?_ ?_ _ | exact Nat.le_refl _ | exact Nat.le_succ _ | exact hB5.size | exact hB6.size | exact Nat.le_trans hB5.size (Nat.le_succ _) | exact Nat.le_trans hB6.size (Nat.le_succ _))))
      (first
        | (go_at_call 95; have hx6 := hB5; refine (rtrim_seg na _ ls (sv na (val 10 xs % val 10 ys)) _ ⟨pa, pc, rfl, hD.1, hD.2.1, hD.2.2.2.1.below (And.right (And.right (by assumption)))⟩ (by have := HLV.out.2; omega) hD.2.2.2.2.1 (by rw [HLV.out.1])).mono ?_; rintro e w6 ⟨s10, a10, n10, c10, rfl, hr6, hb6⟩; have hB6 := keepc (by assumption) hb6; (try (have Y6 := Y5.stay hb6; obtain ⟨y60, y61, yf60, yf61⟩ := Y6.two; have y6n := Y6.lt; have y6k := Nat.ne_of_lt Y6.lt; have y6m := Nat.ne_of_gt Y6.lt)); (try (have Y6 := (Y5.alloc (.cells #[.bool false, .slice none 0 0] 39 (0, 0))).stay hb6; obtain ⟨y60, y61, yf60, yf61⟩ := Y6.two; have y6n := Y6.lt; have y6k := Nat.ne_of_lt Y6.lt; have y6m := Nat.ne_of_gt Y6.lt)); (try (have Y6b := Y5b.stay hb6; obtain ⟨v60, v61, vf60, vf61⟩ := Y6b.two; have v6n := Y6b.lt; have v6k := Nat.ne_of_lt Y6b.lt; have v6m := Nat.ne_of_gt Y6b.lt)); (try (have X6 := Blk.stay (Blk.new w5 39 #[.bool false, .slice none 0 0]) hb6; obtain ⟨u60, u61, uf60, uf61⟩ := X6.two; have u6n := X6.lt; have u6k := Nat.ne_of_lt X6.lt; have u6m := Nat.ne_of_gt X6.lt)); (try (have X6 := Blk.stay ((Blk.new w5 39 #[.bool false, .slice none 0 0]).alloc (.cells #[.bool false, .slice none 0 0] 39 (0, 0))) hb6; have X6b := Blk.stay (Blk.new (w5.alloc (.cells #[.bool false, .slice none 0 0] 39 (0, 0))) 39 #[.bool false, .slice none 0 0]) hb6; simp only [World.size_alloc] at X6b; obtain ⟨u60, u61, uf60, uf61⟩ := X6.two; have u6n := X6.lt; have u6k := Nat.ne_of_lt X6.lt; have u6m := Nat.ne_of_gt X6.lt; obtain ⟨t60, t61, tf60, tf61⟩ := X6b.two; have t6n := X6b.lt; have t6k := Nat.ne_of_lt X6b.lt; have t6m := Nat.ne_of_gt X6b.lt)); (first | (have h96 := (hr5.mono (show qs.length ≤ L by rw [HQ.out.1]; exact hxl)).below hb6) | (have h96 := ((hr5.mono (show qs.length ≤ L by rw [HQ.out.1]; exact hxl)).below (below_new w5 (.cells #[.bool false, .slice none 0 0] 39 (0, 0)))).below hb6) | (have h96 := (((hr5.mono (show qs.length ≤ L by rw [HQ.out.1]; exact hxl)).below (below_new w5 (.cells #[.bool false, .slice none 0 0] 39 (0, 0)))).below (below_new _ (.cells #[.bool false, .slice none 0 0] 39 (0, 0)))).below hb6)); have h106 := hr6.mono HLV.out.2)
        | (go_at_call 95; refine (rtrim_seg (!(na == nb)) _ qs (sv (!(na == nb)) (val 10 xs / val 10 ys)) _ ⟨some ⟨w.heap.size + 1 + 1 + 1 + 1, 0, none⟩, xs.length, by rw [HQ.out.1], by rw [HQ.out.1]; exact Nat.le_refl _, by unfold maxLen; omega, (HQ.out.2.2.keep (And.right (And.right (by assumption))) HQ.out.2.2.lt).all⟩ (by rw [HQ.out.1]; omega) hqd (by rw [HQ.out.2.1])).mono ?_; rintro e w5 ⟨s9, a9, n9, c9, rfl, hr5, hb5⟩; have hB5 := keepc (by assumption) hb5; (try (have Y5 := Blk.stay (Blk.drew (Blk.new w1 39 #[.bool false, .slice none 0 0])) hb5; obtain ⟨y50, y51, yf50, yf51⟩ := Y5.two; have y5n := Y5.lt; have y5k := Nat.ne_of_lt Y5.lt; have y5m := Nat.ne_of_gt Y5.lt)); (try (have Y5 := Blk.stay (Blk.drew ((Blk.new w1 39 #[.bool false, .slice none 0 0]).alloc (.cells #[.bool false, .slice none 0 0] 39 (0, 0)))) hb5; have Y5b := Blk.stay (Blk.drew (Blk.new (w1.alloc (.cells #[.bool false, .slice none 0 0] 39 (0, 0))) 39 #[.bool false, .slice none 0 0])) hb5; simp only [World.size_alloc] at Y5b; obtain ⟨y50, y51, yf50, yf51⟩ := Y5.two; have y5n := Y5.lt; have y5k := Nat.ne_of_lt Y5.lt; have y5m := Nat.ne_of_gt Y5.lt; obtain ⟨v50, v51, vf50, vf51⟩ := Y5b.two; have v5n := Y5b.lt; have v5k := Nat.ne_of_lt Y5b.lt; have v5m := Nat.ne_of_gt Y5b.lt))))
    all_goals go_wp2_with fail
    all_goals go_meet
    all_goals (first
      | (refine ⟨w6.heap.size, w6.heap.size + 1, s9, a9, n9, c9, s10, a10, n10, c10, rfl, rfl, ?_⟩; have K := two_new hB6 s9 s10 a9 a10 n9 n10 c9 c10; exact ⟨hB6.size, (Nat.le_trans hB6.size (Nat.le_succ _)), K.1, K.2.1, K.2.2.1 _ _ _ h96, K.2.2.1 _ _ _ h106, K.2.2.2⟩)
      | (refine ⟨w6.heap.size + 1, w6.heap.size, s9, a9, n9, c9, s10, a10, n10, c10, rfl, rfl, ?_⟩; have K := two_new hB6 s10 s9 a10 a9 n10 n9 c10 c9; exact ⟨(Nat.le_trans hB6.size (Nat.le_succ _)), hB6.size, K.2.1, K.1, K.2.2.1 _ _ _ h96, K.2.2.1 _ _ _ h106, K.2.2.2⟩)
      | (refine ⟨w5.heap.size, w6.heap.size, s9, a9, n9, c9, s10, a10, n10, c10, rfl, rfl, ?_⟩; have K := one_old hB6 X6 hB5.size s9 s10 a9 a10 n9 n10 c9 c10; exact ⟨hB5.size, hB6.size, K.1, K.2.1, K.2.2.1 _ _ _ h96, K.2.2.1 _ _ _ h106, K.2.2.2⟩)
      | (refine ⟨w6.heap.size, w5.heap.size, s9, a9, n9, c9, s10, a10, n10, c10, rfl, rfl, ?_⟩; have K := one_old hB6 X6 hB5.size s10 s9 a10 a9 n10 n9 c10 c9; exact ⟨hB6.size, hB5.size, K.2.1, K.1, K.2.2.1 _ _ _ h96, K.2.2.1 _ _ _ h106, K.2.2.2⟩)
      | (refine ⟨w1.heap.size, w6.heap.size, s9, a9, n9, c9, s10, a10, n10, c10, rfl, rfl, ?_⟩; have K := one_old hB6 Y6 (Nat.le_refl _) s9 s10 a9 a10 n9 n10 c9 c10; exact ⟨(Nat.le_refl _), hB6.size, K.1, K.2.1, K.2.2.1 _ _ _ h96, K.2.2.1 _ _ _ h106, K.2.2.2⟩)
      | (refine ⟨w6.heap.size, w1.heap.size, s9, a9, n9, c9, s10, a10, n10, c10, rfl, rfl, ?_⟩; have K := one_old hB6 Y6 (Nat.le_refl _) s10 s9 a10 a9 n10 n9 c10 c9; exact ⟨hB6.size, (Nat.le_refl _), K.2.1, K.1, K.2.2.1 _ _ _ h96, K.2.2.1 _ _ _ h106, K.2.2.2⟩)
      | (refine ⟨w1.heap.size, w1.heap.size + 1, s9, a9, n9, c9, s10, a10, n10, c10, rfl, rfl, ?_⟩; have K := two_old hB6 Y6 Y6b (Nat.ne_of_lt (Nat.lt_succ_self _)) (Nat.le_refl _) (Nat.le_succ _) s9 s10 a9 a10 n9 n10 c9 c10; exact ⟨(Nat.le_refl _), (Nat.le_succ _), K.1, K.2.1, K.2.2.1 _ _ _ h96, K.2.2.1 _ _ _ h106, K.2.2.2⟩)
      | (refine ⟨w1.heap.size + 1, w1.heap.size, s9, a9, n9, c9, s10, a10, n10, c10, rfl, rfl, ?_⟩; have K := two_old hB6 Y6b Y6 (Nat.ne_of_gt (Nat.lt_succ_self _)) (Nat.le_succ _) (Nat.le_refl _) s9 s10 a9 a10 n9 n10 c9 c10; exact ⟨(Nat.le_succ _), (Nat.le_refl _), K.1, K.2.1, K.2.2.1 _ _ _ h96, K.2.2.1 _ _ _ h106, K.2.2.2⟩)
      | (refine ⟨w5.heap.size, w5.heap.size + 1, s9, a9, n9, c9, s10, a10, n10, c10, rfl, rfl, ?_⟩; have K := two_old hB6 X6 X6b (Nat.ne_of_lt (Nat.lt_succ_self _)) hB5.size (Nat.le_trans hB5.size (Nat.le_succ _)) s9 s10 a9 a10 n9 n10 c9 c10; exact ⟨hB5.size, (Nat.le_trans hB5.size (Nat.le_succ _)), K.1, K.2.1, K.2.2.1 _ _ _ h96, K.2.2.1 _ _ _ h106, K.2.2.2⟩)
      | (refine ⟨w5.heap.size + 1, w5.heap.size, s9, a9, n9, c9, s10, a10, n10, c10, rfl, rfl, ?_⟩; have K := two_old hB6 X6b X6 (Nat.ne_of_gt (Nat.lt_succ_self _)) (Nat.le_trans hB5.size (Nat.le_succ _)) hB5.size s9 s10 a9 a10 n9 n10 c9 c10; exact ⟨(Nat.le_trans hB5.size (Nat.le_succ _)), hB5.size, K.1, K.2.1, K.2.2.1 _ _ _ h96, K.2.2.1 _ _ _ h106, K.2.2.2⟩)
      | (refine ⟨w1.heap.size, w5.heap.size, s9, a9, n9, c9, s10, a10, n10, c10, rfl, rfl, ?_⟩; have K := two_old hB6 Y6 X6 (Nat.ne_of_lt Y5.lt) (Nat.le_refl _) hB5.size s9 s10 a9 a10 n9 n10 c9 c10; exact ⟨(Nat.le_refl _), hB5.size, K.1, K.2.1, K.2.2.1 _ _ _ h96, K.2.2.1 _ _ _ h106, K.2.2.2⟩)
      | (refine ⟨w5.heap.size, w1.heap.size, s9, a9, n9, c9, s10, a10, n10, c10, rfl, rfl, ?_⟩; have K := two_old hB6 X6 Y6 (Nat.ne_of_gt Y5.lt) hB5.size (Nat.le_refl _) s9 s10 a9 a10 n9 n10 c9 c10; exact ⟨hB5.size, (Nat.le_refl _), K.1, K.2.1, K.2.2.1 _ _ _ h96, K.2.2.1 _ _ _ h106, K.2.2.2⟩))
  case rest =>
    obtain ⟨b9, b10, s9, a9, n9, c9, s10, a10, n10, c10, rfl, rfl, hl9, hl10, K9, K10, h9, h10, hBc⟩ := hcut
    have hlt1 : w.heap.size + 1 + 1 + 1 < w1.heap.size := R1.lt
    have B2 := B1.stay hBc
    have Q2 := Q1.stay hBc
    have R2 := R1.stay hBc
    obtain ⟨ca0, ca1, -, -⟩ := (A1.stay hBc).two
    obtain ⟨cb0, cb1, -, -⟩ := B2.two
    obtain ⟨k90, k91, -, -⟩ := K9.two
    obtain ⟨k100, k101, -, -⟩ := K10.two
    obtain ⟨q0', q1', qf0, qf1⟩ := Q2.two
    obtain ⟨r0', r1', rf0, rf1⟩ := R2.two
    have hbv2 := hbv.below hBc
    replace hbw := hbw.step hBc (Nat.le_refl _)
    have hlen : 0 < n10 ↔ 0 < val 10 xs % val 10 ys := (rnum_len h10).trans sv_ne
    have e93 : b9 ≠ w.heap.size + 1 + 1 := by omega
    have e94 : b9 ≠ w.heap.size + 1 + 1 + 1 := by omega
    have e103 : b10 ≠ w.heap.size + 1 + 1 := by omega
    have e104 : b10 ≠ w.heap.size + 1 + 1 + 1 := by omega
    clear a0 a1 b0 b1 A1 B1 Q1 R1 hbv HQ HLV hBc hl9 hl10 hD hqd
    by_cases hc : 0 < val 10 xs % val 10 ys ∧ (na == nb) = false
    · have g1 : 0 < n10 := hlen.2 hc.1
      have g2 := hc.2
      have HV : Hid2 (sv (!(na == nb)) (val 10 xs / val 10 ys) - 1 = x.fdiv y ∧ sv na (val 10 xs % val 10 ys) + y = x.fmod y) := by
        obtain ⟨e1, e2⟩ := div_rest na nb (val 10 xs) (val 10 ys) hc.2 HY0.out hc.1
        refine ⟨?_, ?_⟩
        · rw [HXY.out.1, HXY.out.2, e1, hc.2]; simp [sv]; omega
        · rw [HXY.out.1, HXY.out.2, e2, sv_diff' _ _ _ _ hc.2 (Nat.le_of_lt (Nat.mod_lt _ HY0.out))]
      clear hc hlen
      go_wp2
      go_region_held3 (fun w' => w'.cell? ⟨b9, 0, none⟩ = some (.bool s9) ∧ w'.cell? ⟨b9, 1, none⟩ = some (.slice a9 n9 c9) ∧ w'.cell? ⟨b10, 0, none⟩ = some (.bool s10) ∧ w'.cell? ⟨b10, 1, none⟩ = some (.slice a10 n10 c10) ∧ w'.cell? ⟨w.heap.size + 1, 0, none⟩ = some (.bool nb) ∧ w'.cell? ⟨w.heap.size + 1, 1, none⟩ = some (.slice bo ys.length cap'))
        (simp [*, go_sem])
        (first
          | (go_at_call 60; refine (rfrom_any 1 _ (by decide) (by decide)).mono ?_; rintro e w5 ⟨s5, a5, n5, c5, rfl, h5, hb5⟩; have hB5 : Below wc.heap.size wc w5 := Below.drew_left hb5; obtain ⟨z1, z2, _, _⟩ := (K9.stay hB5).two; obtain ⟨z3, z4, _, _⟩ := (K10.stay hB5).two; obtain ⟨z5, z6, _, _⟩ := (B2.stay hB5).two)
          | (go_at_call 123; refine (rSub_any _ _ _ 1 _ L 20 _ (h9.below hB5) h5 (by omega) HV.out.1).mono ?_; rintro e w6 ⟨s6, a6, n6, c6, rfl, h6, hb6⟩; have hB6 := hB5.step hb6 (Nat.le_refl _); obtain ⟨z11, z12, _, _⟩ := (K9.stay hB6).two; obtain ⟨z13, z14, _, _⟩ := (K10.stay hB6).two; obtain ⟨z15, z16, _, _⟩ := (B2.stay hB6).two)
          | (go_at_call 57; refine (rAdd_any _ _ _ y _ L L _ (h10.below hB6) (hbv2.below hB6) (by omega) HV.out.2).mono ?_; rintro e w7 ⟨s7, a7, n7, c7, rfl, h7, hb7⟩; have hB7 := hB6.step hb7 (Nat.le_refl _); obtain ⟨z21, z22, _, _⟩ := (K9.stay hB7).two; obtain ⟨z23, z24, _, _⟩ := (K10.stay hB7).two; obtain ⟨z25, z26, _, _⟩ := (B2.stay hB7).two; have Q7 := Q2.stay hB7; have R7 := R2.stay hB7; obtain ⟨p0, p1, pf0, pf1⟩ := Q7.two; obtain ⟨o0, o1, of0, of1⟩ := R7.two))
      go_wp2
      refine bodyPost_ret (v := .tuple #[.agg #[.bool s6, .slice a6 n6 c6], .agg #[.bool s7, .slice a7 n7 c7], .int .i64 0]) (by simp [results, Tryz.results84, go_sem, p0, p1, o0, o1]) rfl ?_
      have K := two_old (hbw.step hB7 (Nat.le_refl _)) Q7 R7 (Nat.ne_of_lt (Nat.lt_succ_self _)) (by omega) (by omega) s6 s7 a6 a7 n6 n7 c6 c7
      exact ⟨s6, a6, n6, c6, s7, a7, n7, c7, rfl, K.2.2.1 _ _ _ ((h6.below hb7).mono (by omega)), K.2.2.1 _ _ _ (h7.mono (by omega)), K.2.2.2⟩
    · have HV : Hid2 (sv (!(na == nb)) (val 10 xs / val 10 ys) = x.fdiv y ∧ sv na (val 10 xs % val 10 ys) = x.fmod y) := by
        rw [HXY.out.1, HXY.out.2]
        by_cases e : (na == nb) = true
        · have e' : na = nb := by simpa using e
          obtain ⟨e1, e2⟩ := div_same nb (val 10 xs) (val 10 ys) HY0.out
          refine ⟨?_, ?_⟩
          · rw [e', e1]; simp
          · rw [e', e2]
        · have e' : (na == nb) = false := by simpa using e
          have hr0 : val 10 xs % val 10 ys = 0 := by
            rcases Nat.eq_zero_or_pos (val 10 xs % val 10 ys) with k | k
            · exact k
            · exact absurd ⟨k, e'⟩ hc
          obtain ⟨e1, e2⟩ := div_exact na nb (val 10 xs) (val 10 ys) e' HY0.out hr0
          refine ⟨?_, ?_⟩
          · rw [e1, e']; rfl
          · rw [e2, hr0, sv_zero, sv_zero]
      have hcase : n10 = 0 ∨ (0 < n10 ∧ (na == nb) = true) := by
        rcases Nat.eq_zero_or_pos n10 with k | k
        · exact Or.inl k
        · right
          refine ⟨k, ?_⟩
          by_cases e : (na == nb) = true
          · exact e
          · exact absurd ⟨hlen.1 k, by simpa using e⟩ hc
      have h9' := h9
      have h10' := h10
      rw [HV.out.1] at h9'
      rw [HV.out.2] at h10'
      have HF : Hid2 (RNum wc (.agg #[.bool s9, .slice a9 n9 c9]) (x.fdiv y) L ∧ RNum wc (.agg #[.bool s10, .slice a10 n10 c10]) (x.fmod y) L) := ⟨h9', h10'⟩
      clear hc hlen HV h9 h10 h9' h10'
      have K := two_old hbw Q2 R2 (Nat.ne_of_lt (Nat.lt_succ_self _)) (by omega) (by omega) s9 s10 a9 a10 n9 n10 c9 c10
      have HK := Hid2.mk K
      clear K
      rcases hcase with g1 | ⟨g1, g2⟩
      · have g0 : ¬ 0 < n10 := by omega
        clear g1
        go_wp2
        go_region_held3 (fun w' => w'.cell? ⟨b9, 0, none⟩ = some (.bool s9) ∧ w'.cell? ⟨b9, 1, none⟩ = some (.slice a9 n9 c9) ∧ w'.cell? ⟨b10, 0, none⟩ = some (.bool s10) ∧ w'.cell? ⟨b10, 1, none⟩ = some (.slice a10 n10 c10))
          (simp [*, go_sem])
          (fail)
        go_wp2
        refine bodyPost_ret (v := .tuple #[.agg #[.bool s9, .slice a9 n9 c9], .agg #[.bool s10, .slice a10 n10 c10], .int .i64 0]) (by simp [results, Tryz.results84, go_sem, q0', q1', r0', r1']) rfl ?_
        exact ⟨s9, a9, n9, c9, s10, a10, n10, c10, rfl, (HK.out.2.2.1 _ _ _ (HF.out.1.mono (by omega : L ≤ 2 * L + 30))).below (Below.refl _ _).drew, (HK.out.2.2.1 _ _ _ (HF.out.2.mono (by omega : L ≤ 2 * L + 30))).below (Below.refl _ _).drew, HK.out.2.2.2.drew⟩
      · go_wp2
        go_region_held3 (fun w' => w'.cell? ⟨b9, 0, none⟩ = some (.bool s9) ∧ w'.cell? ⟨b9, 1, none⟩ = some (.slice a9 n9 c9) ∧ w'.cell? ⟨b10, 0, none⟩ = some (.bool s10) ∧ w'.cell? ⟨b10, 1, none⟩ = some (.slice a10 n10 c10))
          (simp [*, go_sem])
          (fail)
        go_wp2
        refine bodyPost_ret (v := .tuple #[.agg #[.bool s9, .slice a9 n9 c9], .agg #[.bool s10, .slice a10 n10 c10], .int .i64 0]) (by simp [results, Tryz.results84, go_sem, q0', q1', r0', r1']) rfl ?_
        exact ⟨s9, a9, n9, c9, s10, a10, n10, c10, rfl, (HK.out.2.2.1 _ _ _ (HF.out.1.mono (by omega : L ≤ 2 * L + 30))).below (Below.refl _ _).drew, (HK.out.2.2.1 _ _ _ (HF.out.2.mono (by omega : L ≤ 2 * L + 30))).below (Below.refl _ _).drew, HK.out.2.2.2.drew⟩

theorem rDiv_any (va vb : Value) (x y : Int) (w : World) (ha : RNum w va x 400) (hb : RNum w vb y 400) (hy0 : y ≠ 0) :
    Calls Tryz.prog 84 #[va, vb] w fun e w' => ∃ s a n c s' a' n' c', e = .returned (.tuple #[.agg #[.bool s, .slice a n c], .agg #[.bool s', .slice a' n' c'], .int .i64 0]) ∧ RNum w' (.agg #[.bool s, .slice a n c]) (x.fdiv y) 1000 ∧ RNum w' (.agg #[.bool s', .slice a' n' c']) (x.fmod y) 1000 ∧ Below w.heap.size w w' := by
  refine (rDiv_L va vb x y 400 w ha hb (by decide) hy0).mono ?_
  rintro e w' ⟨s, a, n, c, s', a', n', c', rfl, h1, h2, hb⟩
  exact ⟨s, a, n, c, s', a', n', c', rfl, h1.mono (by decide), h2.mono (by decide), hb⟩
end Go.Proofs.YteefniagebcagaaGreatDoor
