/- Contract of arith.Gcd at numbers of at most two limbs; it proves no statement of the seat. -/
import Derived.Test.YtlonnhnfmcndfadDiv2JGcd
namespace Go.Proofs.Ytlonnhnfmcndfad
open Go.RowKit

theorem two_limbs {xs : List Nat} (hd : Digs 4294967296 xs) (hl : xs.length ≤ 2) : val 4294967296 xs < 18446744073709551616 := by
  have h1 := val_lt hd
  have h2 : 4294967296 ^ xs.length ≤ 4294967296 ^ 2 := Nat.pow_le_pow_right (by decide) hl
  omega

set_option maxHeartbeats 4000000 in
theorem gcd_small (va vb : Value) (na nb : Bool) (xs ys : List Nat) (w : World) (hva : IntV w va na xs) (hvb : IntV w vb nb ys) (hl1 : xs.length ≤ 2) (hl2 : ys.length ≤ 2) :
    Calls Try.prog 19 #[va, vb] w fun e w' => ∃ v, e = .returned v ∧ AInt w' v (Nat.gcd (val 4294967296 xs) (val 4294967296 ys)) ∧ Below w.heap.size w w' := by
  obtain ⟨ao, cap, rfl, h1, h2, hs, hd, hn, h3⟩ := hva
  obtain ⟨bo, cap', rfl, k1, k2, ks, kd, kn, k3⟩ := hvb
  have g1 : decide (2 < (xs.length : Int)) = false := by simp; omega
  have g2 : decide (2 < (ys.length : Int)) = false := by simp; omega
  have HX : Hid (val 4294967296 xs < 18446744073709551616) := two_limbs hd hl1
  have HY : Hid (val 4294967296 ys < 18446744073709551616) := two_limbs kd hl2
  have HG : Hid (Nat.gcd (val 4294967296 xs) (val 4294967296 ys) < 18446744073709551616) := by
    show _ < _
    rcases Nat.eq_zero_or_pos (val 4294967296 xs) with h | h
    · rw [h, Nat.gcd_zero_left]; exact HY.out
    · exact Nat.lt_of_le_of_lt (Nat.gcd_le_left _ h) HX.out
  clear h3 k3
  have R0 := Blk.new ((w.alloc (.cells #[.bool na, .slice ao xs.length cap] 50 (0, 0))).alloc (.cells #[.bool nb, .slice bo ys.length cap'] 50 (0, 0))) 50 #[.bool false, .slice none 0 0]
  simp only [World.size_alloc] at R0
  have hbw : Below w.heap.size w (((w.alloc (.cells #[.bool na, .slice ao xs.length cap] 50 (0, 0))).alloc (.cells #[.bool nb, .slice bo ys.length cap'] 50 (0, 0))).alloc (.cells #[.bool false, .slice none 0 0] 50 (0, 0))) := by go_grown
  go_enter Try.func19, Try.ntmps19
  go_wp2
  go_region
  go_wp2
  refine wp_loop_rounds 1 ?_
  rw [rounds_succ]
  go_wp2_with fail
  refine (joinWord_any ao xs.length cap xs _ rfl hl1 (hs.below hbw.drew) hd).mono ?_
  rintro e w1 ⟨rfl, rfl⟩
  go_wp2_with fail
  refine (joinWord_any bo ys.length cap' ys _ rfl hl2 (ks.below hbw.drew) kd).mono ?_
  rintro e w1 ⟨rfl, rfl⟩
  go_wp2_with fail
  refine (gcdWords_any _ _ _ (by have := HX.out; omega) (by have := HY.out; omega)).mono ?_
  rintro e w1 ⟨rfl, hb1⟩
  have R1 := R0.drew.stay hb1
  go_wp2_with fail
  refine (splitWord_int _ _ rfl _ HG.out).mono ?_
  rintro e w2 ⟨v2, rfl, hl, hb2⟩
  have R2 := R1.stay hb2
  go_wp2_with fail
  refine (signed_lim false v2 _ 2 _ hl (by decide) (Nat.lt_of_lt_of_le HG.out word_lim)).mono ?_
  rintro e w3 ⟨v3, rfl, ha3, hb3⟩
  have R3 := R2.stay hb3
  obtain ⟨x, a, n, c, rfl⟩ := ha3.shape
  obtain ⟨r0, r1, q0, q1⟩ := R3.two
  go_wp2
  refine bodyPost_ret (v := .agg #[.bool x, .slice a n c]) (by simp [results, Try.results19, go_sem, r0, r1]) rfl ?_
  exact ⟨_, rfl, ha3.store2 R3 _ _ _ _, below_store2 (((hbw.drew.step hb1 (Nat.le_refl _)).step hb2 (Nat.le_refl _)).step hb3 (Nat.le_refl _)) (by omega) _ _⟩
end Go.Proofs.Ytlonnhnfmcndfad
