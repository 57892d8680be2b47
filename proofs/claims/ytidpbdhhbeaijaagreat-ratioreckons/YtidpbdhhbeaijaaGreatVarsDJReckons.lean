/- Sign, Abs, Bits, Div and Gcd by the numbers that variables hold, and what is true of quotients, rests and divisors; they prove no statement of the seat. -/
import Derived.Test.YtidpbdhhbeaijaaGreatGcd2JReckons
namespace Go.Proofs.YtidpbdhhbeaijaaGreat
open Go.RowKit

theorem sgn_h (va : Value) (x r : Int) (w : World) (ha : AInt w va x) (hr : x.sign = r) :
    Calls Tryz.prog 44 #[va] w fun e w' => e = .returned (.int .i64 r) ∧ Below w.heap.size w w' := by
  subst hr
  exact sign_h va x w ha
theorem bits_big (va : Value) (x : Int) (w : World) (ha : AInt w va x) (hl : lim ≤ 2 * x.natAbs) :
    Calls Tryz.prog 83 #[va] w fun e w' => ∃ n : Nat, e = .returned (.int .i64 n) ∧ 1024 ≤ n ∧ Below w.heap.size w w' := by
  obtain ⟨neg, xs, hv, rfl, hl2⟩ := ha
  refine (bits_any va neg xs w hv).mono ?_
  rintro e w' ⟨rfl, hb⟩
  obtain ⟨_, _, _, _, _, _, hd, hn, _⟩ := hv
  refine ⟨blen xs, rfl, ?_, hb⟩
  rw [sv_natAbs] at hl
  rcases Nat.lt_or_ge (blen xs) 1024 with h | h
  · exfalso
    obtain ⟨k, hk⟩ : ∃ k, k + 1 = 32 * 32 := ⟨1023, rfl⟩
    have h2 := (blen_le_iff hd hn k).1 (by omega)
    have h3 := lim_pow (k + 1) hk
    rw [Nat.pow_succ] at h3
    omega
  · exact h
theorem ec_big {z : Int} (h : ec z ≠ 0) : ec z = 11 := by
  unfold ec at h ⊢
  split
  · rename_i k; rw [if_pos k] at h; exact absurd rfl h
  · rfl
theorem div_back {x y q r p : Int} (hq : x.fdiv y = q) (hr : x.fmod y = r) (hp : q * y = p) : p + r = x := by
  subst hq hr hp
  have := Int.fmod_add_mul_fdiv x y
  rw [Int.mul_comm, Int.add_comm]
  exact this
theorem rest_facts {x y r : Int} (hy : y ≠ 0) (hr : x.fmod y = r) : (r = 0 ∨ r.sign = y.sign) ∧ r.natAbs < y.natAbs := by
  subst hr
  rcases Int.lt_or_gt_of_ne hy with h | h
  · have e : (-x).fmod (-y) = -(x.fmod y) := Int.neg_fmod_neg x y
    have h1 := Int.fmod_nonneg_of_pos (-x) (b := -y) (by omega)
    have h2 := Int.fmod_lt_of_pos (-x) (b := -y) (by omega)
    rw [e] at h1 h2
    refine ⟨?_, by omega⟩
    rcases Int.lt_or_eq_of_le (show x.fmod y ≤ 0 by omega) with k | k
    · right; rw [Int.sign_eq_neg_one_of_neg k, Int.sign_eq_neg_one_of_neg h]
    · left; exact k
  · have h1 := Int.fmod_nonneg_of_pos x (b := y) h
    have h2 := Int.fmod_lt_of_pos x (b := y) h
    refine ⟨?_, by omega⟩
    rcases Int.lt_or_eq_of_le h1 with k | k
    · right; rw [Int.sign_eq_one_of_pos k, Int.sign_eq_one_of_pos h]
    · left; exact k.symm
theorem rest_less {x y r : Int} (hy : y ≠ 0) (hr : x.fmod y = r) : ((r.natAbs : Int) - (y.natAbs : Int)).sign = -1 :=
  Int.sign_eq_neg_one_of_neg (by have := (rest_facts hy hr).2; omega)
theorem div_big {x y q r p : Int} (hy : y ≠ 0) (hq : x.fdiv y = q) (hr : x.fmod y = r) (hp : q * y = p) (hl : y.natAbs < lim) (h : ec p ≠ 0) : lim ≤ 2 * x.natAbs := by
  have hb := div_back hq hr hp
  have h2 := (rest_facts hy hr).2
  have h3 : lim ≤ p.natAbs := Nat.le_of_not_lt fun k => h (ec_of k)
  have h4 : p.natAbs = q.natAbs * y.natAbs := by rw [← hp, Int.natAbs_mul]
  have h5 : 2 ≤ q.natAbs := by
    rcases Nat.lt_or_ge q.natAbs 2 with k | k
    · have : q.natAbs * y.natAbs ≤ 1 * y.natAbs := Nat.mul_le_mul_right _ (by omega)
      omega
    · exact k
  have h6 : 2 * y.natAbs ≤ q.natAbs * y.natAbs := Nat.mul_le_mul_right _ h5
  omega

theorem gcd_facts {x y d : Int} (hd : ((Int.gcd x y : Nat) : Int) = d) (h0 : 0 < d) : x.fmod d = 0 ∧ y.fmod d = 0 ∧ ((Int.gcd (x.fdiv d) (y.fdiv d) : Nat) : Int) = 1 := by
  have h1 : d ∣ x := by rw [← hd]; exact Int.gcd_dvd_left ..
  have h2 : d ∣ y := by rw [← hd]; exact Int.gcd_dvd_right ..
  refine ⟨by rw [Int.fmod_eq_emod_of_nonneg _ (Int.le_of_lt h0)]; exact Int.emod_eq_zero_of_dvd h1, by rw [Int.fmod_eq_emod_of_nonneg _ (Int.le_of_lt h0)]; exact Int.emod_eq_zero_of_dvd h2, ?_⟩
  rw [Int.fdiv_eq_ediv_of_nonneg _ (Int.le_of_lt h0), Int.fdiv_eq_ediv_of_nonneg _ (Int.le_of_lt h0), ← hd]
  have := Int.gcd_ediv_gcd_ediv_gcd (i := x) (j := y) (by omega)
  rw [this]; rfl
theorem gcd_pos {x y d : Int} (hd : ((Int.gcd x y : Nat) : Int) = d) (h : ¬ (x = 0 ∧ y = 0)) : 0 < d := by
  rw [← hd]
  rcases Nat.eq_zero_or_pos (Int.gcd x y) with k | k
  · exact absurd (Int.gcd_eq_zero_iff.1 k) h
  · omega
theorem gcd_z (va vb : Value) (x y z : Int) (w : World) (ha : AInt w va x) (hb : AInt w vb y) (hz' : ((Int.gcd x y : Nat) : Int) = z) :
    Calls Tryz.prog 24 #[va, vb] w fun e w' => ∃ s a n c, e = .returned (.agg #[.bool s, .slice a n c]) ∧ AInt w' (.agg #[.bool s, .slice a n c]) z ∧ Below w.heap.size w w' := gcd_h va vb x y z w ha hb hz'
end Go.Proofs.YtidpbdhhbeaijaaGreat
