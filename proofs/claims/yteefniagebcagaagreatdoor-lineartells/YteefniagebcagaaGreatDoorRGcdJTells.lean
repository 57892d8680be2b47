/- Contract of suretyref01.Gcd; it proves no statement of the seat. -/
import Derived.Test.YteefniagebcagaaGreatDoorRTwoJTells
import Derived.Test.YteefniagebcagaaGreatDoorJoin18Tells
namespace Go.Proofs.YteefniagebcagaaGreatDoor
open Go.RowKit

set_option maxRecDepth 20000 in
set_option maxHeartbeats 16000000 in
theorem rGcd_L (va vb : Value) (x y z : Int) (L : Nat) (w : World) (ha : RNum w va x L) (hb : RNum w vb y L) (hL : L ≤ 4000) (hz' : ((Int.gcd x y : Nat) : Int) = z) :
    Calls Tryz.prog 77 #[va, vb] w fun e w' => ∃ s a n c, e = .returned (.agg #[.bool s, .slice a n c]) ∧ RNum w' (.agg #[.bool s, .slice a n c]) z L ∧ Below w.heap.size w w' := by
  subst hz'
  obtain ⟨na, aa, la, ca, rfl⟩ := ha.shape
  obtain ⟨nb, ab, lb, cb, rfl⟩ := hb.shape
  have A1 := ((Blk.new w 39 #[.bool na, .slice aa la ca]).alloc (.cells #[.bool nb, .slice ab lb cb] 39 (0, 0))).alloc (.cells #[.bool false, .slice none 0 0] 39 (0, 0))
  have B1 := (Blk.new (w.alloc (.cells #[.bool na, .slice aa la ca] 39 (0, 0))) 39 #[.bool nb, .slice ab lb cb]).alloc (.cells #[.bool false, .slice none 0 0] 39 (0, 0))
  have R1 := Blk.new ((w.alloc (.cells #[.bool na, .slice aa la ca] 39 (0, 0))).alloc (.cells #[.bool nb, .slice ab lb cb] 39 (0, 0))) 39 #[.bool false, .slice none 0 0]
  simp only [World.size_alloc] at B1 R1
  have hbw : Below w.heap.size w (((w.alloc (.cells #[.bool na, .slice aa la ca] 39 (0, 0))).alloc (.cells #[.bool nb, .slice ab lb cb] 39 (0, 0))).alloc (.cells #[.bool false, .slice none 0 0] 39 (0, 0))) := by go_grown
  have hav := ha.below hbw
  have hbv := hb.below hbw
  clear ha hb
  go_enter Tryz.func77, Tryz.ntmps77
  go_wp2
  generalize (((w.alloc (.cells #[.bool na, .slice aa la ca] 39 (0, 0))).alloc (.cells #[.bool nb, .slice ab lb cb] 39 (0, 0))).alloc (.cells #[.bool false, .slice none 0 0] 39 (0, 0))) = w1 at A1 B1 R1 hbw hav hbv ⊢
  obtain ⟨a0, a1, -, -⟩ := A1.two
  obtain ⟨b0, b1, -, -⟩ := B1.two
  go_cut [5, 6] (fun p9 p10 wx => ∃ b9 b10 s9 a9 n9 c9 s10 a10 n10 c10, p9 = .pointer (some ⟨b9, 0, none⟩) ∧ p10 = .pointer (some ⟨b10, 0, none⟩) ∧ b9 ≠ b10 ∧ w1.heap.size ≤ b9 ∧ w1.heap.size ≤ b10 ∧ Blk 39 wx b9 #[.bool s9, .slice a9 n9 c9] ∧ Blk 39 wx b10 #[.bool s10, .slice a10 n10 c10] ∧
      RNum wx (.agg #[.bool s9, .slice a9 n9 c9]) (x.natAbs : Int) L ∧ RNum wx (.agg #[.bool s10, .slice a10 n10 c10]) (y.natAbs : Int) L ∧ Below w1.heap.size w1 wx)
  case first =>
    go_region_held3 (fun w' => (w'.cell? ⟨w.heap.size, 0, none⟩ = some (.bool na) ∧ w'.cell? ⟨w.heap.size, 1, none⟩ = some (.slice aa la ca) ∧ w'.cell? ⟨w.heap.size + 1, 0, none⟩ = some (.bool nb) ∧ w'.cell? ⟨w.heap.size + 1, 1, none⟩ = some (.slice ab lb cb)) ∧ True ∧ Below w1.heap.size w1 w')
      ((refine keepE A1 B1 ?_; repeat' (first | assumption | exact Below.refl _ _ | refine Below.drew ?_ | refine below_alloc _ ?_ _ | refine Below.setCell ?_ ?_ _ | exact Nat.le_refl _ | exact Nat.le_succ _ | exact hB5.size | exact hB6.size | exact Nat.le_trans hB5.size (Nat.le_succ _) | exact Nat.le_trans hB6.size (Nat.le_succ _))))
      (first
        | (go_at_call 117; have hx6 := hB5; refine (rabs_any _ y L _ (hbv.below (And.right (And.right (by assumption)))) (by omega)).mono ?_; rintro e w6 ⟨s10, a10, n10, c10, rfl, hr6, hb6⟩; have hB6 := keepc (by assumption) hb6; (try (have Y6 := Y5.stay hb6; obtain ⟨y60, y61, yf60, yf61⟩ := Y6.two; have y6n := Y6.lt; have y6k := Nat.ne_of_lt Y6.lt; have y6m := Nat.ne_of_gt Y6.lt)); (try (have Y6 := (Y5.alloc (.cells #[.bool false, .slice none 0 0] 39 (0, 0))).stay hb6; obtain ⟨y60, y61, yf60, yf61⟩ := Y6.two; have y6n := Y6.lt; have y6k := Nat.ne_of_lt Y6.lt; have y6m := Nat.ne_of_gt Y6.lt)); (try (have Y6b := Y5b.stay hb6; obtain ⟨v60, v61, vf60, vf61⟩ := Y6b.two; have v6n := Y6b.lt; have v6k := Nat.ne_of_lt Y6b.lt; have v6m := Nat.ne_of_gt Y6b.lt)); (try (have X6 := Blk.stay (Blk.new w5 39 #[.bool false, .slice none 0 0]) hb6; obtain ⟨u60, u61, uf60, uf61⟩ := X6.two; have u6n := X6.lt; have u6k := Nat.ne_of_lt X6.lt; have u6m := Nat.ne_of_gt X6.lt)); (try (have X6 := Blk.stay ((Blk.new w5 39 #[.bool false, .slice none 0 0]).alloc (.cells #[.bool false, .slice none 0 0] 39 (0, 0))) hb6; have X6b := Blk.stay (Blk.new (w5.alloc (.cells #[.bool false, .slice none 0 0] 39 (0, 0))) 39 #[.bool false, .slice none 0 0]) hb6; simp only [World.size_alloc] at X6b; obtain ⟨u60, u61, uf60, uf61⟩ := X6.two; have u6n := X6.lt; have u6k := Nat.ne_of_lt X6.lt; have u6m := Nat.ne_of_gt X6.lt; obtain ⟨t60, t61, tf60, tf61⟩ := X6b.two; have t6n := X6b.lt; have t6k := Nat.ne_of_lt X6b.lt; have t6m := Nat.ne_of_gt X6b.lt)); (first | (have h96 := hr5.below hb6) | (have h96 := (hr5.below (below_new w5 (.cells #[.bool false, .slice none 0 0] 39 (0, 0)))).below hb6) | (have h96 := ((hr5.below (below_new w5 (.cells #[.bool false, .slice none 0 0] 39 (0, 0)))).below (below_new _ (.cells #[.bool false, .slice none 0 0] 39 (0, 0)))).below hb6)); have h106 := hr6)
        | (go_at_call 117; refine (rabs_any _ x L _ (hav.below (And.right (And.right (by assumption)))) (by omega)).mono ?_; rintro e w5 ⟨s9, a9, n9, c9, rfl, hr5, hb5⟩; have hB5 := keepc (by assumption) hb5; (try (have Y5 := Blk.stay (Blk.drew (Blk.new w1 39 #[.bool false, .slice none 0 0])) hb5; obtain ⟨y50, y51, yf50, yf51⟩ := Y5.two; have y5n := Y5.lt; have y5k := Nat.ne_of_lt Y5.lt; have y5m := Nat.ne_of_gt Y5.lt)); (try (have Y5 := Blk.stay (Blk.drew ((Blk.new w1 39 #[.bool false, .slice none 0 0]).alloc (.cells #[.bool false, .slice none 0 0] 39 (0, 0)))) hb5; have Y5b := Blk.stay (Blk.drew (Blk.new (w1.alloc (.cells #[.bool false, .slice none 0 0] 39 (0, 0))) 39 #[.bool false, .slice none 0 0])) hb5; simp only [World.size_alloc] at Y5b; obtain ⟨y50, y51, yf50, yf51⟩ := Y5.two; have y5n := Y5.lt; have y5k := Nat.ne_of_lt Y5.lt; have y5m := Nat.ne_of_gt Y5.lt; obtain ⟨v50, v51, vf50, vf51⟩ := Y5b.two; have v5n := Y5b.lt; have v5k := Nat.ne_of_lt Y5b.lt; have v5m := Nat.ne_of_gt Y5b.lt))))
    all_goals go_wp2_with fail
    all_goals go_meet
    all_goals (first
      | (refine ⟨w6.heap.size, w6.heap.size + 1, s9, a9, n9, c9, s10, a10, n10, c10, rfl, rfl, ?_⟩; have K := two_new hB6 s9 s10 a9 a10 n9 n10 c9 c10; exact ⟨(Nat.ne_of_lt (Nat.lt_succ_self _)), hB6.size, (Nat.le_trans hB6.size (Nat.le_succ _)), K.1, K.2.1, K.2.2.1 _ _ _ h96, K.2.2.1 _ _ _ h106, K.2.2.2⟩)
      | (refine ⟨w6.heap.size + 1, w6.heap.size, s9, a9, n9, c9, s10, a10, n10, c10, rfl, rfl, ?_⟩; have K := two_new hB6 s10 s9 a10 a9 n10 n9 c10 c9; exact ⟨(Nat.ne_of_lt (Nat.lt_succ_self _)).symm, (Nat.le_trans hB6.size (Nat.le_succ _)), hB6.size, K.2.1, K.1, K.2.2.1 _ _ _ h96, K.2.2.1 _ _ _ h106, K.2.2.2⟩)
      | (refine ⟨w5.heap.size, w6.heap.size, s9, a9, n9, c9, s10, a10, n10, c10, rfl, rfl, ?_⟩; have K := one_old hB6 X6 hB5.size s9 s10 a9 a10 n9 n10 c9 c10; exact ⟨(Nat.ne_of_lt X6.lt), hB5.size, hB6.size, K.1, K.2.1, K.2.2.1 _ _ _ h96, K.2.2.1 _ _ _ h106, K.2.2.2⟩)
      | (refine ⟨w6.heap.size, w5.heap.size, s9, a9, n9, c9, s10, a10, n10, c10, rfl, rfl, ?_⟩; have K := one_old hB6 X6 hB5.size s10 s9 a10 a9 n10 n9 c10 c9; exact ⟨(Nat.ne_of_lt X6.lt).symm, hB6.size, hB5.size, K.2.1, K.1, K.2.2.1 _ _ _ h96, K.2.2.1 _ _ _ h106, K.2.2.2⟩)
      | (refine ⟨w1.heap.size, w6.heap.size, s9, a9, n9, c9, s10, a10, n10, c10, rfl, rfl, ?_⟩; have K := one_old hB6 Y6 (Nat.le_refl _) s9 s10 a9 a10 n9 n10 c9 c10; exact ⟨(Nat.ne_of_lt Y6.lt), (Nat.le_refl _), hB6.size, K.1, K.2.1, K.2.2.1 _ _ _ h96, K.2.2.1 _ _ _ h106, K.2.2.2⟩)
      | (refine ⟨w6.heap.size, w1.heap.size, s9, a9, n9, c9, s10, a10, n10, c10, rfl, rfl, ?_⟩; have K := one_old hB6 Y6 (Nat.le_refl _) s10 s9 a10 a9 n10 n9 c10 c9; exact ⟨(Nat.ne_of_lt Y6.lt).symm, hB6.size, (Nat.le_refl _), K.2.1, K.1, K.2.2.1 _ _ _ h96, K.2.2.1 _ _ _ h106, K.2.2.2⟩)
      | (refine ⟨w1.heap.size, w1.heap.size + 1, s9, a9, n9, c9, s10, a10, n10, c10, rfl, rfl, ?_⟩; have K := two_old hB6 Y6 Y6b (Nat.ne_of_lt (Nat.lt_succ_self _)) (Nat.le_refl _) (Nat.le_succ _) s9 s10 a9 a10 n9 n10 c9 c10; exact ⟨(Nat.ne_of_lt (Nat.lt_succ_self _)), (Nat.le_refl _), (Nat.le_succ _), K.1, K.2.1, K.2.2.1 _ _ _ h96, K.2.2.1 _ _ _ h106, K.2.2.2⟩)
      | (refine ⟨w1.heap.size + 1, w1.heap.size, s9, a9, n9, c9, s10, a10, n10, c10, rfl, rfl, ?_⟩; have K := two_old hB6 Y6b Y6 (Nat.ne_of_gt (Nat.lt_succ_self _)) (Nat.le_succ _) (Nat.le_refl _) s9 s10 a9 a10 n9 n10 c9 c10; exact ⟨(Nat.ne_of_lt (Nat.lt_succ_self _)).symm, (Nat.le_succ _), (Nat.le_refl _), K.1, K.2.1, K.2.2.1 _ _ _ h96, K.2.2.1 _ _ _ h106, K.2.2.2⟩)
      | (refine ⟨w5.heap.size, w5.heap.size + 1, s9, a9, n9, c9, s10, a10, n10, c10, rfl, rfl, ?_⟩; have K := two_old hB6 X6 X6b (Nat.ne_of_lt (Nat.lt_succ_self _)) hB5.size (Nat.le_trans hB5.size (Nat.le_succ _)) s9 s10 a9 a10 n9 n10 c9 c10; exact ⟨(Nat.ne_of_lt (Nat.lt_succ_self _)), hB5.size, (Nat.le_trans hB5.size (Nat.le_succ _)), K.1, K.2.1, K.2.2.1 _ _ _ h96, K.2.2.1 _ _ _ h106, K.2.2.2⟩)
      | (refine ⟨w5.heap.size + 1, w5.heap.size, s9, a9, n9, c9, s10, a10, n10, c10, rfl, rfl, ?_⟩; have K := two_old hB6 X6b X6 (Nat.ne_of_gt (Nat.lt_succ_self _)) (Nat.le_trans hB5.size (Nat.le_succ _)) hB5.size s9 s10 a9 a10 n9 n10 c9 c10; exact ⟨(Nat.ne_of_lt (Nat.lt_succ_self _)).symm, (Nat.le_trans hB5.size (Nat.le_succ _)), hB5.size, K.1, K.2.1, K.2.2.1 _ _ _ h96, K.2.2.1 _ _ _ h106, K.2.2.2⟩)
      | (refine ⟨w1.heap.size, w5.heap.size, s9, a9, n9, c9, s10, a10, n10, c10, rfl, rfl, ?_⟩; have K := two_old hB6 Y6 X6 (Nat.ne_of_lt Y5.lt) (Nat.le_refl _) hB5.size s9 s10 a9 a10 n9 n10 c9 c10; exact ⟨(Nat.ne_of_lt Y5.lt), (Nat.le_refl _), hB5.size, K.1, K.2.1, K.2.2.1 _ _ _ h96, K.2.2.1 _ _ _ h106, K.2.2.2⟩)
      | (refine ⟨w5.heap.size, w1.heap.size, s9, a9, n9, c9, s10, a10, n10, c10, rfl, rfl, ?_⟩; have K := two_old hB6 X6 Y6 (Nat.ne_of_gt Y5.lt) hB5.size (Nat.le_refl _) s9 s10 a9 a10 n9 n10 c9 c10; exact ⟨(Nat.ne_of_lt Y5.lt).symm, hB5.size, (Nat.le_refl _), K.1, K.2.1, K.2.2.1 _ _ _ h96, K.2.2.1 _ _ _ h106, K.2.2.2⟩))
  case rest =>
    obtain ⟨b9, b10, s9, a9, n9, c9, s10, a10, n10, c10, rfl, rfl, hne, hl9, hl10, K9, K10, h9, h10, hBc⟩ := hcut
    have hlt1 : w.heap.size + 1 + 1 < w1.heap.size := R1.lt
    have R2 := R1.stay hBc
    replace hbw := hbw.step hBc (Nat.le_refl _)
    have e9 : b9 ≠ w.heap.size + 1 + 1 := by omega
    have e10 : b10 ≠ w.heap.size + 1 + 1 := by omega
    have l9 : w.heap.size ≤ b9 := by omega
    have l10 : w.heap.size ≤ b10 := by omega
    clear a0 a1 b0 b1 A1 B1 R1 hav hbv hBc hl9 hl10 hlt1
    go_wp2
    go_loopg [13] (y.natAbs) (fun gk _ wr => ∃ X : Nat, ∃ s9 a9 n9 c9 s10 a10 n10 c10, Blk 39 wr b9 #[.bool s9, .slice a9 n9 c9] ∧ Blk 39 wr b10 #[.bool s10, .slice a10 n10 c10] ∧
        RNum wr (.agg #[.bool s9, .slice a9 n9 c9]) (X : Int) L ∧ RNum wr (.agg #[.bool s10, .slice a10 n10 c10]) (gk : Int) L ∧ Hid (Nat.gcd X gk = Nat.gcd x.natAbs y.natAbs) ∧ Blk 39 wr (w.heap.size + 1 + 1) #[.bool false, .slice none 0 0] ∧ Below w.heap.size w wr)
    case atStart => exact ⟨x.natAbs, s9, a9, n9, c9, s10, a10, n10, c10, K9, K10, h9, h10, rfl, R2, hbw⟩
    case round =>
      clear K9 K10 h9 h10 R2 hbw s9 a9 n9 c9 s10 a10 n10 c10
      obtain ⟨X, s9, a9, n9, c9, s10, a10, n10, c10, K9, K10, h9, h10, HG, R2, hbw⟩ := hrel
      obtain ⟨k90, k91, kf90, kf91⟩ := K9.two
      obtain ⟨k100, k101, kf100, kf101⟩ := K10.two
      have hlen := rnum_len h10
      by_cases h0 : 0 < n10
      · have HK0 : Hid (0 < gk) := by have := hlen.1 h0; show _ < _; omega
        obtain ⟨xs, rfl, dx, hxv⟩ := DigL.of h9
        obtain ⟨ys, rfl, dy, hyv⟩ := DigL.of h10
        have HV : Hid (val 10 xs = X ∧ val 10 ys = gk) := ⟨hxv, hyv⟩
        have hxl : xs.length ≤ L := rnum_le h9
        have hyl : ys.length ≤ L := rnum_le h10
        clear hlen hxv hyv
        go_wp2_with fail
        refine (rsplit_any a9 a10 xs.length ys.length c9 c10 xs ys _ rfl rfl (by omega) (by omega) dx.2.2.2.1 dy.2.2.2.1 dx.2.2.2.2.1 dy.2.2.2.2.1 dy.2.2.2.2.2 h0).mono ?_
        rintro e w2 ⟨pa, pc, ls, qs, rfl, -, -, -, -, hD, hlv, hb2⟩
        have HLV : Hid2 (val 10 ls = X % gk) := ⟨by rw [hlv, HV.out.1, HV.out.2]⟩
        have hll : ls.length ≤ L := by
          have h5 := norm_len10 (p := ys.length) hD.2.2.2.2.2 (by rw [hlv]; exact Nat.lt_trans (Nat.mod_lt _ (by rw [HV.out.2]; exact HK0.out)) (val_lt dy.2.2.2.2.1)); omega
        have K9b := K9.stay hb2
        have K10b := K10.stay hb2
        have R2b := R2.stay hb2
        have h10b := h10.below hb2
        replace hbw := hbw.step hb2 (Nat.le_refl _)
        clear K9 K10 R2 h9 h10 k90 k91 kf90 kf91 k100 k101 kf100 kf101 hlv hb2 dx dy
        obtain ⟨k90, k91, kf90, kf91⟩ := K9b.two
        obtain ⟨k100, k101, kf100, kf101⟩ := K10b.two
        go_wp2
        go_region_with (first
          | (go_at_call 95; refine (rtrim_seg false _ ls ((X % gk : Nat) : Int) _ ⟨pa, pc, rfl, hD.1, hD.2.1, hD.2.2.2.1.below (Below.refl _ _).drew⟩ (by omega) hD.2.2.2.2.1 (by rw [HLV.out]; rfl)).mono ?_; rintro e w6 ⟨s6, a6, n6, c6, rfl, h6, hb6⟩; have hB6 : Below w2.heap.size w2 w6 := Below.drew_left hb6; obtain ⟨z1, z2, zf1, zf2⟩ := (K9b.stay hB6).two; obtain ⟨z3, z4, zf3, zf4⟩ := (K10b.stay hB6).two))
        all_goals
          go_wp2
          go_roundg (X % gk)
          case measure => exact Nat.mod_lt _ HK0.out
          case rel =>
            have K := two_old (hbw.step hB6 (Nat.le_refl _)) (K9b.stay hB6) (K10b.stay hB6) hne l9 l10 s10 s6 a10 a6 ys.length n6 c10 c6
            refine ⟨gk, s10, a10, ys.length, c10, s6, a6, n6, c6, K.1, K.2.1, K.2.2.1 _ _ _ (h10b.below hB6), K.2.2.1 _ _ _ (h6.mono hll), ?_, (((R2b.stay hB6).other (a := ⟨b9, 0, none⟩) e9 _).other (a := ⟨b9, 1, none⟩) e9 _ |>.other (a := ⟨b10, 0, none⟩) e10 _).other (a := ⟨b10, 1, none⟩) e10 _, K.2.2.2⟩
            show _ = _
            rw [← HG.out, Nat.gcd_comm, ← Nat.gcd_rec, Nat.gcd_comm]
      · have HZ : Hid (gk = 0) := by
          show _ = _
          rcases Nat.eq_zero_or_pos gk with k | k
          · exact k
          · exact absurd (hlen.2 (by omega)) h0
        obtain ⟨r0, r1, rf0, rf1⟩ := R2.two
        clear hlen
        go_wp2
        refine bodyPost_ret (v := .agg #[.bool s9, .slice a9 n9 c9]) (by simp [results, Tryz.results77, go_sem, r0, r1]) rfl ?_
        refine ⟨s9, a9, n9, c9, rfl, ?_, below_store2 hbw (by omega) _ _⟩
        have h5 := HG.out
        rw [HZ.out, Nat.gcd_zero_right] at h5
        have h6 := h9.store2 R2 s9 a9 n9 c9
        rw [h5] at h6
        exact h6

theorem rGcd_any (va vb : Value) (x y z : Int) (w : World) (ha : RNum w va x 400) (hb : RNum w vb y 400) (hz' : ((Int.gcd x y : Nat) : Int) = z) :
    Calls Tryz.prog 77 #[va, vb] w fun e w' => ∃ s a n c, e = .returned (.agg #[.bool s, .slice a n c]) ∧ RNum w' (.agg #[.bool s, .slice a n c]) z 400 ∧ Below w.heap.size w w' := rGcd_L va vb x y z 400 w ha hb (by decide) hz'
end Go.Proofs.YteefniagebcagaaGreatDoor
