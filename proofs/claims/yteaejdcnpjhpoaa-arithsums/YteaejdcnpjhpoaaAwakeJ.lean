/- The statements' first lines: awake answers true; it proves no statement of the seat by itself. -/
import Derived.Test.YteaejdcnpjhpoaaGcd1J
import Derived.Test.YteaejdcnpjhpoaaRParseJ
import Derived.Deep.DeepCutAuto
namespace Go.Proofs.Yteaejdcnpjhpoaa
open Go.RowKit

theorem text_a (v : Value) (z : Int) (w : World) (hv : AInt w v z) :
    Calls Try.prog 13 #[v] w fun e w' => ∃ S, e = .returned (.string S) ∧ TextOf S z ∧ Below w.heap.size w w' := by
  obtain ⟨neg, xs, h1, h2, h3⟩ := hv
  rw [h2]
  exact text_any v neg xs w h1 (by have := AInt.len h1 h3; omega)

theorem div_one (va vb : Value) (x y : Int) (w : World) (ha : AInt w va x) (hb : AInt w vb y) (hy0 : y ≠ 0) (hy : y.natAbs < 4294967296) :
    Calls Try.prog 18 #[va, vb] w fun e w' => ∃ vq vr, e = .returned (.tuple #[vq, vr, .int .i64 0]) ∧ AInt w' vq (x.fdiv y) ∧ AInt w' vr (x.fmod y) ∧ Below w.heap.size w w' := by
  obtain ⟨na, xs, hva, hx, hxl⟩ := ha
  obtain ⟨nb, ys, hvb, hye, hyl⟩ := hb
  have l1 := AInt.len hva hxl
  have l2 := AInt.len hvb hyl
  have e1 : y.natAbs = val 4294967296 ys := by rw [hye, sv_natAbs]
  have hva' := hva
  have hvb' := hvb
  obtain ⟨_, _, _, _, _, _, dx, nx, _⟩ := hva'
  obtain ⟨_, _, _, _, _, _, dy, ny, _⟩ := hvb'
  have p0 : 0 < ys.length := by
    rcases Nat.eq_zero_or_pos ys.length with h | h
    · rw [List.eq_nil_of_length_eq_zero h, val_nil] at e1; omega
    · exact h
  have p1 : ys.length = 1 := by
    rcases Nat.lt_or_ge 1 ys.length with h | h
    · have h1 := ny.ge (B := 4294967296) (List.ne_nil_of_length_pos p0) (by decide)
      have h2 : 4294967296 ^ 1 ≤ 4294967296 ^ (ys.length - 1) := Nat.pow_le_pow_right (by decide) (by omega)
      omega
    · omega
  rw [hx, hye]
  refine div_of va vb na nb xs ys w hva hvb hxl hyl p0 ?_
  rcases Nat.lt_or_ge (val 4294967296 xs) (val 4294967296 ys) with h | h
  · exact divLimbs_less xs ys (by omega) (by omega) dx dy nx ny h
  · exact divLimbs_one xs ys (by omega) p1 dx dy nx ny h

theorem gcd_a (va vb : Value) (x y : Int) (w : World) (ha : AInt w va x) (hb : AInt w vb y) (hx : x.natAbs < 18446744073709551616) (hy : y.natAbs < 18446744073709551616) :
    Calls Try.prog 24 #[va, vb] w fun e w' => ∃ v, e = .returned v ∧ AInt w' v (Nat.gcd x.natAbs y.natAbs) ∧ Below w.heap.size w w' := by
  obtain ⟨na, xs, hva, hxe, hxl⟩ := ha
  obtain ⟨nb, ys, hvb, hye, hyl⟩ := hb
  have len2 : ∀ zs : List Nat, Norm zs → val 4294967296 zs < 18446744073709551616 → zs.length ≤ 2 := by
    intro zs hn hv
    rcases Nat.lt_or_ge 2 zs.length with h | h
    · have h1 := hn.ge (B := 4294967296) (List.ne_nil_of_length_pos (by omega)) (by decide)
      have h2 : 4294967296 ^ 2 ≤ 4294967296 ^ (zs.length - 1) := Nat.pow_le_pow_right (by decide) (by omega)
      omega
    · exact h
  have hva' := hva
  have hvb' := hvb
  obtain ⟨_, _, _, _, _, _, dx, nx, _⟩ := hva'
  obtain ⟨_, _, _, _, _, _, dy, ny, _⟩ := hvb'
  rw [hxe, hye, sv_natAbs, sv_natAbs]
  rw [hxe, sv_natAbs] at hx
  rw [hye, sv_natAbs] at hy
  exact gcd_small va vb na nb xs ys w hva hvb (len2 xs nx hx) (len2 ys ny hy)

theorem good_12 : Good [45, 49, 50] := by
  refine (good_iff [45, 49, 50] 1 rfl).2 ⟨by decide, by decide, ?_⟩
  intro i h1 h2
  have : i = 1 ∨ i = 2 := by simp at h2; omega
  rcases this with rfl | rfl <;> simp
theorem pval_12 : pval [45, 49, 50] = -12 := by decide +kernel

theorem held_small {w : World} {v : Value} {c z : Int} (h : Held w v c z) (hz : z.natAbs < 18446744073709551616) : c = 0 ∧ AInt w v z := by
  rcases h with ⟨h1, _, h2⟩ | ⟨_, h, _⟩
  · exact ⟨h1, h2⟩
  · have := word_lim; omega

theorem keep1 {t : TypeId} {W0 w' : World} {b : Nat} {u v : Value} (X0 : Blk t W0 b #[u, v]) (h : Below W0.heap.size W0 w') : w'.cell? ⟨b, 0, none⟩ = some u ∧ w'.cell? ⟨b, 1, none⟩ = some v ∧ Below W0.heap.size W0 w' :=
  ⟨(X0.stay h).two.1, (X0.stay h).two.2.1, h⟩

theorem keepc {p q : Prop} {W0 W w' : World} (hS : p ∧ q ∧ Below W0.heap.size W0 W) (hb : Below W.heap.size W w') : Below W0.heap.size W0 w' := hS.2.2.step hb (Nat.le_refl _)

theorem keepl {p : Prop} {W0 W w' : World} (hS : Below W0.heap.size W0 W ∧ p) (hb : Below W.heap.size W w') : Below W0.heap.size W0 w' := hS.1.step hb (Nat.le_refl _)
theorem keep4 {t : TypeId} {W0 w' : World} {b1 b2 b3 b4 : Nat} {p1 q1 p2 q2 p3 q3 p4 q4 : Value} (h1 : Blk t W0 b1 #[p1, q1]) (h2 : Blk t W0 b2 #[p2, q2]) (h3 : Blk t W0 b3 #[p3, q3]) (h4 : Blk t W0 b4 #[p4, q4]) (h : Below W0.heap.size W0 w') :
    Below W0.heap.size W0 w' ∧ w'.cell? ⟨b1, 0, none⟩ = some p1 ∧ w'.cell? ⟨b1, 1, none⟩ = some q1 ∧ w'.cell? ⟨b2, 0, none⟩ = some p2 ∧ w'.cell? ⟨b2, 1, none⟩ = some q2 ∧ w'.cell? ⟨b3, 0, none⟩ = some p3 ∧ w'.cell? ⟨b3, 1, none⟩ = some q3 ∧ w'.cell? ⟨b4, 0, none⟩ = some p4 ∧ w'.cell? ⟨b4, 1, none⟩ = some q4 :=
  ⟨h, (h1.stay h).two.1, (h1.stay h).two.2.1, (h2.stay h).two.1, (h2.stay h).two.2.1, (h3.stay h).two.1, (h3.stay h).two.2.1, (h4.stay h).two.1, (h4.stay h).two.2.1⟩
theorem digs1 (d : Nat) (h : d < 10) : Digs 10 [d] := Digs.cons h (Digs.nil _)
theorem tx_m4 : TextOf ⟨#[45, 52]⟩ (-4) := ⟨true, [4], rfl, digs1 4 (by decide), fun h => by simp at h, by decide, rfl⟩
theorem tx_1 : TextOf ⟨#[49]⟩ 1 := ⟨false, [1], rfl, digs1 1 (by decide), fun h => by simp at h, by decide, rfl⟩
theorem tx_m36 : TextOf ⟨#[45, 51, 54]⟩ (-36) := ⟨true, [6, 3], rfl, Digs.cons (by decide) (digs1 3 (by decide)), fun h => by simp at h, by decide, rfl⟩
theorem tx_6 : TextOf ⟨#[54]⟩ 6 := ⟨false, [6], rfl, digs1 6 (by decide), fun h => by simp at h, by decide, rfl⟩
theorem text_lit {S : ByteArray} {z : Int} {l : List UInt8} (h : TextOf S z) (k : TextOf ⟨l.toArray⟩ z) : (S.toList == l) = true := by rw [h.same k, ByteArray.toList_mk]; simp

set_option maxHeartbeats 8000000 in
theorem awake_any (w : World) : Calls Try.prog 9 #[] w fun e w' => e = .returned (.bool true) ∧ Below w.heap.size w w' := by
  go_enter Try.func9, Try.ntmps9
  go_wp2_with fail
  refine (from_any (-7) _ (by decide) (by decide)).mono ?_
  rintro e w1 ⟨v1, rfl, h1, hb1⟩
  go_wp2_with fail
  refine (from_any 2 _ (by decide) (by decide)).mono ?_
  rintro e w2 ⟨v2, rfl, h2, hb2⟩
  go_wp2_with fail
  refine (div_one v1 v2 (-7) 2 _ (h1.below hb2) h2 (by decide) (by decide)).mono ?_
  rintro e w3 ⟨vq, vr, rfl, hq, hr, hb3⟩
  obtain ⟨xq, aq, nq, cq, rfl⟩ := hq.shape
  obtain ⟨xr, ar, nr, cr, rfl⟩ := hr.shape
  have hbw := (hb1.step hb2 (Nat.le_refl _)).step hb3 (Nat.le_refl _)
  clear h1 h2 hb1 hb2 hb3
  have Q0 := (Blk.new w3 25 #[.bool xq, .slice aq nq cq]).alloc (.cells #[.bool xr, .slice ar nr cr] 25 (0, 0))
  have R0 := Blk.new (w3.alloc (.cells #[.bool xq, .slice aq nq cq] 25 (0, 0))) 25 #[.bool xr, .slice ar nr cr]
  simp only [World.size_alloc] at R0
  have hq1 := (hq.below ((Below.refl _ _).alloc (Nat.le_refl _) (.cells #[.bool xq, .slice aq nq cq] 25 (0, 0)))).below ((Below.refl _ _).alloc (Nat.le_refl _) (.cells #[.bool xr, .slice ar nr cr] 25 (0, 0)))
  have hr1 := (hr.below ((Below.refl _ _).alloc (Nat.le_refl _) (.cells #[.bool xq, .slice aq nq cq] 25 (0, 0)))).below ((Below.refl _ _).alloc (Nat.le_refl _) (.cells #[.bool xr, .slice ar nr cr] 25 (0, 0)))
  have hbw1 := (hbw.alloc hbw.size (.cells #[.bool xq, .slice aq nq cq] 25 (0, 0))).alloc (by have := hbw.size; simp; omega) (.cells #[.bool xr, .slice ar nr cr] 25 (0, 0))
  go_wp2_with fail
  refine (parse_any ⟨#[45, 49, 50]⟩ _ (by decide)).mono ?_
  rintro e w4 ⟨vx, c, rfl, hb4, hpr⟩
  have hx : c = 0 ∧ AInt w4 vx (-12) := by
    rcases hpr with ⟨h, _⟩ | ⟨_, h⟩
    · exact absurd good_12 h
    · rcases h with ⟨h1, _, h2⟩ | ⟨_, h, _⟩
      · refine ⟨h1, ?_⟩
        have e : sv (pneg (bs ⟨#[45, 49, 50]⟩)) (dec (pbody (bs ⟨#[45, 49, 50]⟩))) = -12 := pval_12
        rw [e] at h2; exact h2
      · exfalso
        have e : sv (pneg (bs ⟨#[45, 49, 50]⟩)) (dec (pbody (bs ⟨#[45, 49, 50]⟩))) = -12 := pval_12
        rw [e] at h
        have := word_lim
        simp at h
        omega
  obtain ⟨rfl, hx⟩ := hx
  obtain ⟨xx, ax, nx, cx, rfl⟩ := hx.shape
  have Q1 := Q0.stay hb4
  have R1 := R0.stay hb4
  have hq2 := hq1.below hb4
  have hr2 := hr1.below hb4
  have hbw2 := hbw1.step hb4 (Nat.le_refl _)
  clear hq hr hq1 hr1 hpr hbw hbw1 Q0 R0 hb4
  have X0 := Blk.new w4 25 #[.bool xx, .slice ax nx cx]
  have hbx : Below w4.heap.size w4 (w4.alloc (.cells #[.bool xx, .slice ax nx cx] 25 (0, 0))) := (Below.refl _ _).alloc (Nat.le_refl _) _
  have Q2 := Q1.stay hbx
  have R2 := R1.stay hbx
  have hq3 := hq2.below hbx
  have hr3 := hr2.below hbx
  have hx3 := hx.below hbx
  have hbw3 := hbw2.step hbx (Nat.le_refl _)
  clear Q1 R1 hq2 hr2 hx hbw2
  go_wp2
  obtain ⟨W0, hW0⟩ : ∃ W0, W0 = w4.alloc (.cells #[.bool xx, .slice ax nx cx] 25 (0, 0)) := ⟨_, rfl⟩
  rw [← hW0] at X0 Q2 R2 hq3 hr3 hx3 hbw3 ⊢
  have HW : Hid (w4.heap.size < W0.heap.size) := X0.lt
  clear hW0 hbx
  go_cut [6, 7] (fun p6 c7 wx => ∃ b xy ay ny cy, p6 = .pointer (some ⟨b, 0, none⟩) ∧ c7 = .int .i64 0 ∧ Blk 25 wx b #[.bool xy, .slice ay ny cy] ∧ AInt wx (.agg #[.bool xy, .slice ay ny cy]) (-36) ∧ Below W0.heap.size W0 wx)
  case first =>
    go_region_held3 (fun w' => w'.cell? ⟨w4.heap.size, 0, none⟩ = some (.bool xx) ∧ w'.cell? ⟨w4.heap.size, 1, none⟩ = some (.slice ax nx cx) ∧ Below W0.heap.size W0 w')
      ((refine keep1 X0 ?_; repeat' (first | assumption | exact Below.refl _ _ | refine Below.drew ?_ | refine below_alloc _ ?_ _ | refine Below.setCell ?_ ?_ _ | exact Nat.le_refl _ | exact hB5.size | exact hB6.size)))
      (first
        | (go_at_call 36; refine (from_any 3 _ (by decide) (by decide)).mono ?_; rintro e w5 ⟨v5, rfl, h5, hb5⟩; have hB5 := keepc (by assumption) hb5; try (have Y5 := Blk.stay (Blk.drew (Blk.new W0 25 #[.bool false, .slice none 0 0])) hb5; obtain ⟨y50, y51, yf50, yf51⟩ := Y5.two))
        | (go_at_call 17; refine (mul_any _ v5 (-12) 3 _ (hx3.below (And.right (And.right (by assumption)))) (h5.below (by first | exact Below.refl _ _ | exact (Below.refl _ _).alloc (Nat.le_refl _) _))).mono ?_; rintro e w6 ⟨vy, c, rfl, hheld, hb6⟩; obtain ⟨rfl, hy⟩ := held_small hheld (by decide); obtain ⟨xy, ay, ny, cy, rfl⟩ := hy.shape; have hB6 := keepc (by assumption) hb6; first | (have Y6 := Y5.stay hb6; obtain ⟨y60, y61, yf60, yf61⟩ := Y6.two) | (have Y6 := Blk.stay (Blk.new w5 25 #[.bool false, .slice none 0 0]) hb6; obtain ⟨y60, y61, yf60, yf61⟩ := Y6.two) | skip))
    all_goals go_wp2_with fail
    all_goals go_meet
    · exact ⟨w6.heap.size, xy, ay, ny, cy, rfl, rfl, Blk.new w6 _ _, hy.below ((Below.refl _ _).alloc (Nat.le_refl _) _), below_alloc _ hB6 _⟩
    · exact ⟨w5.heap.size, xy, ay, ny, cy, rfl, rfl, by have h := (Y6.set 0 (.bool xy)).set 1 (.slice ay ny cy); simpa using h, hy.store2 Y6 _ _ _ _, below_store2 hB6 hB5.size _ _⟩
    · exact ⟨W0.heap.size, xy, ay, ny, cy, rfl, rfl, by have h := (Y6.set 0 (.bool xy)).set 1 (.slice ay ny cy); simpa using h, hy.store2 Y6 _ _ _ _, below_store2 hB6 (Nat.le_refl _) _ _⟩
  case rest =>
    obtain ⟨b, xy, ay, ny, cy, rfl, rfl, Y7, hy7, hB7⟩ := hcut
    have Q7 := Q2.stay hB7
    have R7 := R2.stay hB7
    have X7 := X0.stay hB7
    have hq7 : AInt wc (.agg #[.bool xq, .slice aq nq cq]) (-4) := hq3.below hB7
    have hr7 : AInt wc (.agg #[.bool xr, .slice ar nr cr]) 1 := hr3.below hB7
    have hx7 := hx3.below hB7
    have hbw7 := hbw3.step hB7 (Nat.le_refl _)
    clear Q2 R2 X0 hq3 hr3 hx3 hbw3 hB7 HW
    go_wp2
    go_region_held3 (fun w' => Below wc.heap.size wc w' ∧ w'.cell? ⟨w3.heap.size, 0, none⟩ = some (.bool xq) ∧ w'.cell? ⟨w3.heap.size, 1, none⟩ = some (.slice aq nq cq) ∧ w'.cell? ⟨w3.heap.size + 1, 0, none⟩ = some (.bool xr) ∧ w'.cell? ⟨w3.heap.size + 1, 1, none⟩ = some (.slice ar nr cr) ∧ w'.cell? ⟨w4.heap.size, 0, none⟩ = some (.bool xx) ∧ w'.cell? ⟨w4.heap.size, 1, none⟩ = some (.slice ax nx cx) ∧ w'.cell? ⟨b, 0, none⟩ = some (.bool xy) ∧ w'.cell? ⟨b, 1, none⟩ = some (.slice ay ny cy))
      ((refine keep4 Q7 R7 X7 Y7 ?_; repeat' (first | assumption | exact Below.refl _ _ | refine Below.drew ?_)))
      (first
        | (go_at_call_of 13 (Value.agg #[.bool xq, .slice aq nq cq]); refine (text_a _ (-4) _ (hq7.below (And.left (by assumption)))).mono ?_; rintro e w8 ⟨S8, rfl, hS8, hb8⟩; have hB8 := keepl (by assumption) hb8; have t8 : (S8.toList == [45, 52]) = true := text_lit hS8 tx_m4; clear hS8)
        | (go_at_call_of 13 (Value.agg #[.bool xr, .slice ar nr cr]); refine (text_a _ 1 _ (hr7.below (And.left (by assumption)))).mono ?_; rintro e w9 ⟨S9, rfl, hS9, hb9⟩; have hB9 := keepl (by assumption) hb9; have t9 : (S9.toList == [49]) = true := text_lit hS9 tx_1; clear hS9)
        | (go_at_call_of 13 (Value.agg #[.bool xy, .slice ay ny cy]); refine (text_a _ (-36) _ (hy7.below (And.left (by assumption)))).mono ?_; rintro e w10 ⟨S10, rfl, hS10, hb10⟩; have hB10 := keepl (by assumption) hb10; have t10 : (S10.toList == [45, 51, 54]) = true := text_lit hS10 tx_m36; clear hS10)
        | (go_at_call 36; refine (from_any 18 _ (by decide) (by decide)).mono ?_; rintro e w11 ⟨v11, rfl, h11, hb11⟩; have hB11 := keepl (by assumption) hb11)
        | (go_at_call 24; refine (gcd_a _ v11 (-12) 18 _ (hx7.below (And.left (by assumption))) h11 (by decide) (by decide)).mono ?_; rintro e w12 ⟨v12, rfl, h12, hb12⟩; have hB12 := keepl (by assumption) hb12)
        | (go_at_call_of 13 v12; refine (text_a v12 6 _ h12).mono ?_; rintro e w13 ⟨S13, rfl, hS13, hb13⟩; have hB13 := keepl (by assumption) hb13; have t13 : (S13.toList == [54]) = true := text_lit hS13 tx_6; clear hS13))
    go_wp2
    go_ret
    exact ⟨rfl, hbw7.step hB13 (Nat.le_refl _)⟩
end Go.Proofs.Yteaejdcnpjhpoaa
