/- Contracts of suretyref01's Small and Bits; they prove no statement of the seat. -/
import Derived.Test.YteaejdcnpjhpoaaSmall1
namespace Go.Proofs.Yteaejdcnpjhpoaa
open Go.RowKit

theorem rCmp_r (va vb : Value) (x y r : Int) (L M : Nat) (w : World) (ha : RNum w va x L) (hb : RNum w vb y M) (hL : L ≤ 100000) (hM : M ≤ 100000) (hr : (x - y).sign = r) :
    Calls Try.prog 27 #[va, vb] w fun e w' => e = .returned (.int .i64 r) ∧ Below w.heap.size w w' := by
  subst hr
  exact rCmp_any va vb x y L M w ha hb hL hM

theorem keepN {t : TypeId} {W0 w' : World} {b : Nat} {u v : Value} (X0 : Blk t W0 b #[u, v]) (h : Below W0.heap.size W0 w') : Below W0.heap.size W0 w' ∧ w'.cell? ⟨b, 0, none⟩ = some u ∧ w'.cell? ⟨b, 1, none⟩ = some v :=
  ⟨h, (X0.stay h).two.1, (X0.stay h).two.2.1⟩

theorem sign_le {x : Int} (h : x ≤ 0) : x.sign ≤ 0 := by
  rcases Int.lt_or_eq_of_le h with k | k
  · rw [Int.sign_eq_neg_one_of_neg k]; decide
  · rw [k]; decide
theorem sign_ge {x : Int} (h : 0 ≤ x) : 0 ≤ x.sign := by
  rcases Int.lt_or_eq_of_le h with k | k
  · rw [Int.sign_eq_one_of_pos k]; decide
  · rw [← k]; decide

set_option maxHeartbeats 4000000 in
theorem rsmall_out (va : Value) (x : Int) (w : World) (ha : RNum w va x 400) (h : x < -9223372036854775808 ∨ 9223372036854775807 < x) :
    Calls Try.prog 39 #[va] w fun e w' => e = .returned (.tuple #[.int .i64 0, .bool false]) ∧ Below w.heap.size w w' := by
  obtain ⟨xx, ax, nx, cx, rfl⟩ := ha.shape
  have X0 := Blk.new w 31 #[.bool xx, .slice ax nx cx]
  have hbw := below_new w (.cells #[.bool xx, .slice ax nx cx] 31 (0, 0))
  have ha1 := ha.below hbw
  go_enter Try.func39, Try.ntmps39
  go_wp2
  obtain ⟨W0, hW0⟩ : ∃ W0, W0 = w.alloc (.cells #[.bool xx, .slice ax nx cx] 31 (0, 0)) := ⟨_, rfl⟩
  rw [← hW0] at X0 hbw ha1 ⊢
  clear hW0 ha
  rcases Int.lt_or_le 9223372036854775807 x with h1 | h1
  · have HS : Hid ((x - 9223372036854775807).sign = 1) := Int.sign_eq_one_of_pos (by omega)
    clear h h1
    obtain ⟨y0, y1, -, -⟩ := X0.two
    go_region_with (first
      | (go_at_call 38; refine (rfrom_any 9223372036854775807 _ (by decide) (by decide)).mono ?_; rintro e v1 ⟨s1, a1, m1, c1, rfl, h1, hv1⟩; have X1 := Blk.stay (by first | exact X0 | exact X0.drew) hv1; obtain ⟨x0, x1, -, -⟩ := X1.two; have hB1 : Below W0.heap.size W0 v1 := Below.trans (by first | exact Below.refl _ _ | exact (Below.refl _ _).drew) hv1)
      | (go_at_call 27; refine (rCmp_r _ _ x 9223372036854775807 1 400 20 _ (ha1.below (by first | exact hB1 | exact hB1.drew)) (h1.below (by first | exact Below.refl _ _ | exact (Below.refl _ _).drew)) (by decide) (by decide) HS.out).mono ?_; rintro e v2 ⟨rfl, hv2⟩; have hB2 : Below W0.heap.size W0 v2 := hB1.step (by first | exact hv2 | exact ((Below.refl _ _).drew).trans hv2) (Nat.le_refl _)))
    all_goals go_wp2
    all_goals go_ret2
    all_goals exact ⟨rfl, by first | exact hbw.step hB2 (Nat.le_refl _) | exact (hbw.step hB2 (Nat.le_refl _)).drew⟩
  · have h2 : x < -9223372036854775808 := by omega
    have HS : Hid ((x - 9223372036854775807).sign = -1) := Int.sign_eq_neg_one_of_neg (by omega)
    have HT : Hid ((x - -9223372036854775808).sign = -1) := Int.sign_eq_neg_one_of_neg (by omega)
    clear h h1 h2
    go_region_held3 (fun w' => Below W0.heap.size W0 w' ∧ w'.cell? ⟨w.heap.size, 0, none⟩ = some (.bool xx) ∧ w'.cell? ⟨w.heap.size, 1, none⟩ = some (.slice ax nx cx))
      ((refine keepN X0 ?_; repeat' (first | assumption | exact Below.refl _ _ | refine Below.drew ?_)))
      (first
        | (go_at_call 38; have hx := hB2; refine (rfrom_any _ _ (by decide) (by decide)).mono ?_; rintro e v3 ⟨s3, a3, m3, c3, rfl, h3, hv3⟩; have hB3 := keepl (by assumption) hv3)
        | (go_at_call 38; refine (rfrom_any _ _ (by decide) (by decide)).mono ?_; rintro e v1 ⟨s1, a1, m1, c1, rfl, h1, hv1⟩; have hB1 := keepl (by assumption) hv1)
        | (go_at_call 27; have hx := hB3; refine (rCmp_r _ _ x _ (-1) 400 20 _ (ha1.below (And.left (by assumption))) h3 (by decide) (by decide) HT.out).mono ?_; rintro e v4 ⟨rfl, hv4⟩; have hB4 := keepl (by assumption) hv4)
        | (go_at_call 27; refine (rCmp_r _ _ x 9223372036854775807 (-1) 400 20 _ (ha1.below (And.left (by assumption))) h1 (by decide) (by decide) HS.out).mono ?_; rintro e v2 ⟨rfl, hv2⟩; have hB2 := keepl (by assumption) hv2))
    go_wp2
    go_ret2
    exact ⟨rfl, hbw.step hB4 (Nat.le_refl _)⟩

theorem val_drop_le (B : Nat) (xs : List Nat) (k : Nat) (hB : 0 < B) : val B (xs.drop k) ≤ val B xs := by
  have h := val_append B (xs.take k) (xs.drop k)
  rw [List.take_append_drop] at h
  rw [h]
  have h1 : 1 * val B (xs.drop k) ≤ B ^ (xs.take k).length * val B (xs.drop k) := Nat.mul_le_mul_right _ (Nat.pow_pos hB)
  omega

set_option maxHeartbeats 4000000 in
theorem rsmall_in (va : Value) (x : Int) (w : World) (ha : RNum w va x 400) (l1 : -9223372036854775808 ≤ x) (l2 : x ≤ 9223372036854775807) :
    Calls Try.prog 39 #[va] w fun e w' => e = .returned (.tuple #[.int .i64 x, .bool true]) ∧ Below w.heap.size w w' := by
  have ha0 := ha
  obtain ⟨neg, ds, ⟨ao, cap, rfl, g1, g2, g3, hs, hd, hn, g4⟩, hx, hl⟩ := ha
  have X0 := Blk.new w 31 #[.bool neg, .slice ao ds.length cap]
  have hbw := below_new w (.cells #[.bool neg, .slice ao ds.length cap] 31 (0, 0))
  have ha1 := ha0.below hbw
  have hs1 := hs.below hbw
  have HXD : Hid (x = sv neg (val 10 ds)) := hx
  have HNA : Hid (val 10 ds = x.natAbs) := by show _ = _; rw [hx, sv_natAbs]
  obtain ⟨r, hr⟩ : ∃ r, (x - 9223372036854775807).sign = r := ⟨_, rfl⟩
  have hr0 : r ≤ 0 := by rw [← hr]; exact sign_le (by omega)
  obtain ⟨q, hq⟩ : ∃ q, (x - -9223372036854775808).sign = q := ⟨_, rfl⟩
  have hq0 : 0 ≤ q := by rw [← hq]; exact sign_ge (by omega)
  have HR : Hid ((x - 9223372036854775807).sign = r) := hr
  have HQ : Hid ((x - -9223372036854775808).sign = q) := hq
  have tr : decide (0 < r) = false := by rw [decide_eq_false_iff_not]; omega
  have tq : decide (q < 0) = false := by rw [decide_eq_false_iff_not]; omega
  have HLx : Hid (-9223372036854775808 ≤ x ∧ x ≤ 9223372036854775807) := ⟨l1, l2⟩
  clear hr hq hx ha0 hs g4 g3 g2 l1 l2 hr0 hq0
  go_enter Try.func39, Try.ntmps39
  go_wp2
  obtain ⟨W0, hW0⟩ : ∃ W0, W0 = w.alloc (.cells #[.bool neg, .slice ao ds.length cap] 31 (0, 0)) := ⟨_, rfl⟩
  rw [← hW0] at X0 hbw ha1 hs1 ⊢
  clear hW0
  go_region_held3 (fun w' => Below W0.heap.size W0 w' ∧ w'.cell? ⟨w.heap.size, 0, none⟩ = some (.bool neg) ∧ w'.cell? ⟨w.heap.size, 1, none⟩ = some (.slice ao ds.length cap))
    ((refine keepN X0 ?_; repeat' (first | assumption | exact Below.refl _ _ | refine Below.drew ?_)))
    (first
      | (go_at_call 38; have hx := hB2; refine (rfrom_any _ _ (by decide) (by decide)).mono ?_; rintro e v3 ⟨s3, a3, m3, c3, rfl, h3, hv3⟩; have hB3 := keepl (by assumption) hv3)
      | (go_at_call 38; refine (rfrom_any _ _ (by decide) (by decide)).mono ?_; rintro e v1 ⟨s1, a1, m1, c1, rfl, h1, hv1⟩; have hB1 := keepl (by assumption) hv1)
      | (go_at_call 27; have hx := hB3; refine (rCmp_r _ _ x _ q 400 20 _ (ha1.below (And.left (by assumption))) h3 (by decide) (by decide) HQ.out).mono ?_; rintro e v4 ⟨rfl, hv4⟩; have hB4 := keepl (by assumption) hv4)
      | (go_at_call 27; refine (rCmp_r _ _ x 9223372036854775807 r 400 20 _ (ha1.below (And.left (by assumption))) h1 (by decide) (by decide) HR.out).mono ?_; rintro e v2 ⟨rfl, hv2⟩; have hB2 := keepl (by assumption) hv2))
  have X4 := X0.stay hB4
  have hs4 := hs1.below hB4
  obtain ⟨x0, x1, -, -⟩ := X4.two
  have hbw4 := hbw.step hB4 (Nat.le_refl _)
  clear hB1 hB2 hB3 hB4 hs1 ha1 X0 hbw tr tq h1 h3 hv1 hv2 hv3 hv4
  go_wp2
  go_loop [4, 5] (fun n i => ∃ k : Nat, k ≤ ds.length ∧ i = .int .i64 ((k : Int) - 1) ∧ n = .int .i64 (sv neg (val 10 (ds.drop k)))) (fun _ i => (intOf i + 1).toNat)
  case atStart =>
    refine ⟨ds.length, Nat.le_refl _, rfl, ?_⟩
    rw [List.drop_of_length_le (Nat.le_refl _), val_nil, sv_zero]
  case round =>
    obtain ⟨k, hk, rfl, rfl⟩ := hrel
    by_cases h0 : 0 < k
    · obtain ⟨j, rfl⟩ : ∃ j, k = j + 1 := ⟨k - 1, by omega⟩
      obtain ⟨b, off, rfl, hc⟩ := hs4.open j (by omega)
      have c1 := hc j (by omega)
      obtain ⟨d, hd1⟩ : ∃ d, d = ds.getD j 0 := ⟨_, rfl⟩
      rw [← hd1] at c1
      obtain ⟨V, hV⟩ : ∃ V, V = val 10 (ds.drop (j + 1)) := ⟨_, rfl⟩
      rw [← hV]
      have HS : Hid (val 10 (ds.drop j) = d + 10 * V) := by show _ = _; rw [drop_cons_getD ds j (by omega), val_cons, ← hd1, hV]
      have hle : d + 10 * V ≤ x.natAbs := by rw [← HS.out, ← HNA.out]; exact val_drop_le 10 ds j (by decide)
      have hd9 : d < 10 := by rw [hd1]; exact hd.getD (by decide) j
      have hlx := HLx.out
      have HXN := HXD
      cases neg with
      | true =>
        have b1 : (V : Int) ≤ 922337203685477580 := by omega
        have b2 : (d : Int) + 10 * V ≤ 9223372036854775808 := by omega
        clear hle hlx hV hd1 hc
        simp only [sv, if_true]
        go_wp2
        go_round
        case rel =>
          refine ⟨j, by omega, rfl, ?_⟩
          rw [HS.out]
          simp
          try omega
        case measure => simp [intOf]
      | false =>
        have hxp : 0 ≤ x := by rw [HXN.out]; simp [sv]
        have b1 : (V : Int) ≤ 922337203685477580 := by omega
        have b2 : (d : Int) + 10 * V ≤ 9223372036854775807 := by omega
        clear hle hlx hV hd1 hc hxp
        simp only [sv]
        go_wp2
        go_round
        case rel =>
          refine ⟨j, by omega, rfl, ?_⟩
          rw [HS.out]
          simp
          try omega
        case measure => simp [intOf]
    · have hk0 : k = 0 := by omega
      subst hk0
      go_wp2
      go_ret2
      refine ⟨?_, hbw4⟩
      rw [HXD.out]
      rfl
end Go.Proofs.Yteaejdcnpjhpoaa
