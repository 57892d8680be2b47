/- The walk of suretylaw01.ArithOrders: it answers true at every two texts. -/
import Derived.Test.YteaejdcnpjhpoaaRBits
import Derived.Test.YteaejdcnpjhpoaaReads
namespace Go.Proofs.Yteaejdcnpjhpoaa
open Go.RowKit

theorem keep3m {t t' : TypeId} {W0 w' : World} {b1 b2 b3 : Nat} {p1 q1 p2 q2 p3 q3 : Value} (h1 : Blk t W0 b1 #[p1, q1]) (h2 : Blk t W0 b2 #[p2, q2]) (h3 : Blk t' W0 b3 #[p3, q3]) (h : Below W0.heap.size W0 w') :
    Below W0.heap.size W0 w' ∧ w'.cell? ⟨b1, 0, none⟩ = some p1 ∧ w'.cell? ⟨b1, 1, none⟩ = some q1 ∧ w'.cell? ⟨b2, 0, none⟩ = some p2 ∧ w'.cell? ⟨b2, 1, none⟩ = some q2 ∧ w'.cell? ⟨b3, 0, none⟩ = some p3 ∧ w'.cell? ⟨b3, 1, none⟩ = some q3 :=
  ⟨h, (h1.stay h).two.1, (h1.stay h).two.2.1, (h2.stay h).two.1, (h2.stay h).two.2.1, (h3.stay h).two.1, (h3.stay h).two.2.1⟩

theorem sign_one (x : Int) : -1 ≤ x.sign ∧ x.sign ≤ 1 := by
  rcases Int.sign_trichotomy x with h | h | h <;> rw [h] <;> decide
theorem wrap_one {x : Int} (h : -1 ≤ x ∧ x ≤ 1) : IntKind.i64.wrap x = x := by
  have e : x = -1 ∨ x = 0 ∨ x = 1 := by omega
  rcases e with rfl | rfl | rfl <;> decide

set_option maxRecDepth 20000 in
set_option maxHeartbeats 8000000 in
theorem arithOrders_any (s t : ByteArray) (w : World) (hs : s.size ≤ maxLen) (ht : t.size ≤ maxLen) :
    Calls Try.prog 5 #[.string s, .string t] w fun e w' => e = .returned (.bool true) ∧ Below w.heap.size w w' := by
  go_enter Try.func5, Try.ntmps5
  go_wp2_with fail
  refine (awake_any _).mono ?_
  rintro e w1 ⟨rfl, hbw⟩
  go_wp2_with fail
  refine (num_h s _ hs).mono ?_
  rintro e w2 ⟨za, xa, aa, na, ca, ya, da, ma, fa, rfl, ka, ra, hb2⟩
  have hn1 := below_new w2 (.cells #[.bool xa, .slice aa na ca] 25 (0, 0))
  have hn2 := below_new (w2.alloc (.cells #[.bool xa, .slice aa na ca] 25 (0, 0))) (.cells #[.bool ya, .slice da ma fa] 31 (0, 0))
  have ha := (VI.new ka).stay hn2
  have hr := (ra.below hn1).below hn2
  have R0 := Blk.new (w2.alloc (.cells #[.bool xa, .slice aa na ca] 25 (0, 0))) 31 #[.bool ya, .slice da ma fa]
  simp only [World.size_alloc] at R0
  replace hbw := ((hbw.step hb2 (Nat.le_refl _)).step hn1 (Nat.le_refl _)).step hn2 (Nat.le_refl _)
  clear hb2 ka ra hn1 hn2
  go_wp2_with fail
  refine (num_h t _ ht).mono ?_
  rintro e w3 ⟨zb, xb, ab, nb, cb, yb, db, mb, fb, rfl, kb, rb, hb3⟩
  have hn1 := below_new w3 (.cells #[.bool xb, .slice ab nb cb] 25 (0, 0))
  have hn2 := below_new (w3.alloc (.cells #[.bool xb, .slice ab nb cb] 25 (0, 0))) (.cells #[.bool yb, .slice db mb fb] 31 (0, 0))
  have hb := (VI.new kb).stay hn2
  have hq := (rb.below hn1).below hn2
  have Q0 := Blk.new (w3.alloc (.cells #[.bool xb, .slice ab nb cb] 25 (0, 0))) 31 #[.bool yb, .slice db mb fb]
  simp only [World.size_alloc] at Q0
  replace ha := ((ha.stay hb3).stay hn1).stay hn2
  replace hr := ((hr.below hb3).below hn1).below hn2
  replace R0 := ((R0.stay hb3).stay hn1).stay hn2
  replace hbw := ((hbw.step hb3 (Nat.le_refl _)).step hn1 (Nat.le_refl _)).step hn2 (Nat.le_refl _)
  clear hb3 kb rb hn1 hn2
  obtain ⟨r0, r1, -, -⟩ := R0.two
  obtain ⟨q0, q1, -, -⟩ := Q0.two
  obtain ⟨c, hc⟩ : ∃ c, (za - zb).sign = c := ⟨_, rfl⟩
  have hc1 : -1 ≤ c ∧ c ≤ 1 := by rw [← hc]; exact sign_one _
  have HC : Hid ((za - zb).sign = c) := hc
  have HD : Hid ((zb - za).sign = -c) := by show _ = _; rw [← hc, ← Int.neg_sub, Int.sign_neg]
  have hwc : IntKind.i64.wrap (-c) = -c := wrap_one (by omega)
  clear hc hc1
  go_wp2_with fail
  refine (rCmp_r _ _ za zb c 400 400 _ hr hq (by decide) (by decide) HC.out).mono ?_
  rintro e w4 ⟨rfl, hb4⟩
  replace ha := ha.stay hb4
  replace hb := hb.stay hb4
  replace hr := hr.below hb4
  replace R0 := R0.stay hb4
  replace hbw := hbw.step hb4 (Nat.le_refl _)
  clear r0 r1 q0 q1 hq Q0 hb4
  go_wp2
  go_region_held3 (fun w' => Below w4.heap.size w4 w' ∧ w'.cell? ⟨w2.heap.size, 0, none⟩ = some (.bool xa) ∧ w'.cell? ⟨w2.heap.size, 1, none⟩ = some (.slice aa na ca) ∧ w'.cell? ⟨w3.heap.size, 0, none⟩ = some (.bool xb) ∧ w'.cell? ⟨w3.heap.size, 1, none⟩ = some (.slice ab nb cb) ∧ w'.cell? ⟨w2.heap.size + 1, 0, none⟩ = some (.bool ya) ∧ w'.cell? ⟨w2.heap.size + 1, 1, none⟩ = some (.slice da ma fa))
    ((refine keep3m ha.1 hb.1 R0 ?_; repeat' (first | assumption | exact Below.refl _ _ | refine Below.drew ?_)))
    (first
      | (go_at_call 28; have hx := hB1; refine (cmp_h _ _ zb za (-c) _ (hb.int.below (And.left (by assumption))) (ha.int.below (And.left (by assumption))) HD.out).mono ?_; rintro e v2 ⟨rfl, hv2⟩; have hB2 := keepl (by assumption) hv2)
      | (go_at_call 28; refine (cmp_h _ _ za zb c _ (ha.int.below (And.left (by assumption))) (hb.int.below (And.left (by assumption))) HC.out).mono ?_; rintro e v1 ⟨rfl, hv1⟩; have hB1 := keepl (by assumption) hv1)
      | (go_at_call 29; refine (bits_h _ za _ (ha.int.below (And.left (by assumption)))).mono ?_; rintro e v3 ⟨n3, rfl, hn3, hv3⟩; have hB3 := keepl (by assumption) hv3; have HN3 : Hid _ := hn3; clear hn3)
      | (go_at_call 30; refine (rbits_any _ za _ (hr.below (And.left (by assumption)))).mono ?_; rintro e v4 ⟨n4, rfl, hn4, hv4⟩; have hB4 := keepl (by assumption) hv4; have HN4 : Hid _ := hn4; clear hn4; obtain rfl := bits_same HN3.out HN4.out)
      | (go_at_call 31; refine (sign_h _ za _ (ha.int.below (And.left (by assumption)))).mono ?_; rintro e v5 ⟨rfl, hv5⟩; have hB5 := keepl (by assumption) hv5)
      | (go_at_call 27; refine (rCmp_r _ _ za 0 za.sign 400 400 _ (hr.below (And.left (by assumption))) (RNum.zero _ _) (by decide) (by decide) (by simp)).mono ?_; rintro e v6 ⟨rfl, hv6⟩; have hB6 := keepl (by assumption) hv6))
  go_wp2
  replace ha := ha.stay hB6
  replace hr := hr.below hB6
  replace R0 := R0.stay hB6
  replace hbw := hbw.step hB6 (Nat.le_refl _)
  clear hB1 hB2 hB3 hB4 hB5 hB6 hv1 hv2 hv3 hv4 hv5 hv6 HN3 HN4 hb
  go_region_held3 (fun w' => Below v6.heap.size v6 w' ∧ w'.cell? ⟨w2.heap.size, 0, none⟩ = some (.bool xa) ∧ w'.cell? ⟨w2.heap.size, 1, none⟩ = some (.slice aa na ca) ∧ w'.cell? ⟨w2.heap.size + 1, 0, none⟩ = some (.bool ya) ∧ w'.cell? ⟨w2.heap.size + 1, 1, none⟩ = some (.slice da ma fa))
    ((refine keep2 ha.1 R0 ?_; repeat' (first | assumption | exact Below.refl _ _ | refine Below.drew ?_)))
    (first
      | (go_at_call 32; refine (neg_any _ za _ (ha.int.below (And.left (by assumption)))).mono ?_; rintro e u1 ⟨p1, rfl, hp1, hu1⟩; have hB1 := keepl (by assumption) hu1)
      | (go_at_call_of 13 p1; refine (text_a p1 (-za) _ hp1).mono ?_; rintro e u2 ⟨S2, rfl, hS2, hu2⟩; have hB2 := keepl (by assumption) hu2)
      | (go_at_call 33; refine (rneg_any _ za 400 _ (hr.below (And.left (by assumption))) (by decide)).mono ?_; rintro e u3 ⟨s3, a3, m3, c3, rfl, hp3, hu3⟩; have hB3 := keepl (by assumption) hu3)
      | (go_at_call_of 25 (Value.agg #[.bool s3, .slice a3 m3 c3]); refine (show_a _ (-za) 400 _ hp3 (by decide)).mono ?_; rintro e u4 ⟨S4, rfl, hS4, hu4⟩; have hB4 := keepl (by assumption) hu4; have t4 : (S2.toList == S4.toList) = true := text_two hS2 hS4)
      | (go_at_call 34; refine (abs_any _ za _ (ha.int.below (And.left (by assumption)))).mono ?_; rintro e u5 ⟨p5, rfl, hp5, hu5⟩; have hB5 := keepl (by assumption) hu5)
      | (go_at_call_of 13 p5; refine (text_a p5 _ _ hp5).mono ?_; rintro e u6 ⟨S6, rfl, hS6, hu6⟩; have hB6 := keepl (by assumption) hu6)
      | (go_at_call 35; refine (rabs_any _ za 400 _ (hr.below (And.left (by assumption))) (by decide)).mono ?_; rintro e u7 ⟨s7, a7, m7, c7, rfl, hp7, hu7⟩; have hB7 := keepl (by assumption) hu7)
      | (go_at_call_of 25 (Value.agg #[.bool s7, .slice a7 m7 c7]); refine (show_a _ _ 400 _ hp7 (by decide)).mono ?_; rintro e u8 ⟨S8, rfl, hS8, hu8⟩; have hB8 := keepl (by assumption) hu8; have t8 : (S6.toList == S8.toList) = true := text_two hS6 hS8))
  go_wp2
  go_ret
  exact ⟨rfl, hbw.step hB8 (Nat.le_refl _)⟩
end Go.Proofs.Yteaejdcnpjhpoaa
