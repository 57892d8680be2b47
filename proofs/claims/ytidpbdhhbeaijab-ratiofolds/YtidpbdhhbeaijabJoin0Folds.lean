/- Joined: Rats, Base, Plain, Own: words and contracts; no statement of the seat is proved here. -/
import Derived.WalkKit
import Derived.WalkSpells
import Derived.WalkLawsBesides
import Derived.Handy
import Derived.Laws.CopyOwn
import Derived.WalkSmall
import Derived.Deep.LoopGhost
import Derived.Laws.AppendOwnNone
/- Rational numbers alone: lowest terms, sums and products by their parts, the order by whole parts; no statement of the seat is proved here. -/
namespace Go.Proofs.Ytidpbdhhbeaijab
open Rat

theorem rat_is {q : Rat} {n d : Int} (hd : 0 < d) (hc : Int.gcd n d = 1) (h : q.num * d = n * q.den) : q.num = n ∧ (q.den : Int) = d := by
  obtain ⟨e, rfl⟩ := Int.eq_ofNat_of_zero_le (Int.le_of_lt hd)
  have he : e ≠ 0 := by rintro rfl; exact absurd hd (by decide)
  have hq : q = ⟨n, e, he, by simpa [Int.gcd, Nat.Coprime] using hc⟩ := Rat.eq_iff_mul_eq_mul.2 h
  rw [hq]
  exact ⟨rfl, rfl⟩

theorem gcd_one_of_times {a b : Int} {g : Int} (hg : 0 < g) (h : g * (Int.gcd a b : Int) = g) : Int.gcd a b = 1 := by
  have : (Int.gcd a b : Int) = 1 := by
    apply Int.eq_of_mul_eq_mul_left (Int.ne_of_gt hg)
    rw [h, Int.mul_one]
  omega

/-- exact quotients -/
theorem fdiv_of {a b : Int} (hb : 0 < b) (h : b ∣ a) : a.fdiv b * b = a := by
  rw [Int.fdiv_eq_ediv_of_nonneg _ (Int.le_of_lt hb)]
  exact Int.ediv_mul_cancel h
theorem fdiv_neg_of {a b : Int} (hb : 0 < b) (h : b ∣ a) : a.fdiv (-b) = -(a.fdiv b) := by
  obtain ⟨k, rfl⟩ := h
  have e1 : (b * k).fdiv b = k := by rw [Int.mul_comm]; exact Int.mul_fdiv_cancel _ (Int.ne_of_gt hb)
  have e2 : (b * k).fdiv (-b) = -k := by
    have : b * k = -k * (-b) := by rw [Int.neg_mul_neg, Int.mul_comm]
    rw [this]
    exact Int.mul_fdiv_cancel _ (by omega)
  rw [e1, e2]
theorem gcdz_pos {a b : Int} (h : b ≠ 0) : (0 : Int) < (Int.gcd a b : Int) := by
  rcases Nat.eq_zero_or_pos (Int.gcd a b) with k | k
  · exact absurd (Int.gcd_eq_zero_iff.1 k).2 h
  · omega
theorem gcdz_pos' {a b : Int} (h : a ≠ 0) : (0 : Int) < (Int.gcd a b : Int) := by
  rw [Int.gcd_comm]; exact gcdz_pos h

/-- a by b in lowest terms, b above 0. -/
theorem divInt_parts {a b : Int} (hb : 0 < b) : (a /. b).num = a.fdiv (Int.gcd a b) ∧ ((a /. b).den : Int) = b.fdiv (Int.gcd a b) := by
  have hg : (0 : Int) < (Int.gcd a b : Int) := gcdz_pos (by omega)
  obtain ⟨g, hgd⟩ : ∃ g : Int, (Int.gcd a b : Int) = g := ⟨_, rfl⟩
  have d1 : g ∣ a := hgd ▸ Int.gcd_dvd_left ..
  have d2 : g ∣ b := hgd ▸ Int.gcd_dvd_right ..
  rw [hgd] at hg ⊢
  obtain ⟨x, rfl⟩ := d1
  obtain ⟨y, rfl⟩ := d2
  have ex : (g * x).fdiv g = x := by rw [Int.mul_comm]; exact Int.mul_fdiv_cancel _ (Int.ne_of_gt hg)
  have ey : (g * y).fdiv g = y := by rw [Int.mul_comm]; exact Int.mul_fdiv_cancel _ (Int.ne_of_gt hg)
  have hy : 0 < y := by
    rcases Int.lt_or_le 0 y with k | k
    · exact k
    · exfalso
      have := Int.mul_nonpos_of_nonneg_of_nonpos (Int.le_of_lt hg) k
      omega
  rw [ex, ey]
  have hgc : Int.gcd x y = 1 := by
    have h1 : ((Int.gcd (g * x) (g * y) : Nat) : Int) = g := hgd
    rw [Int.gcd_mul_left] at h1
    have : g.natAbs = g := by omega
    refine gcd_one_of_times hg ?_
    rw [Int.natCast_mul, this] at h1
    exact h1
  refine rat_is hy hgc ?_
  have e : (g * x) /. (g * y) = x /. y := Rat.divInt_mul_left (Int.ne_of_gt hg)
  rw [e]
  have e2 : (x /. y) = (x /. y).num /. (x /. y).den := (Rat.num_divInt_den _).symm
  exact ((Rat.divInt_eq_divInt_iff (Int.ne_of_gt hy) (by have := (x /. y).den_nz; omega)).1 e2).symm

/-- what Lowest and Of reckon: signs turned first, or the divisor's sign -/
theorem divInt_neg {a b : Int} : a /. b = (-a) /. (-b) := (Rat.neg_divInt_neg a b).symm
theorem divInt_parts_neg {a b : Int} (hb : b < 0) : (a /. b).num = a.fdiv (-(Int.gcd a b : Int)) ∧ ((a /. b).den : Int) = b.fdiv (-(Int.gcd a b : Int)) := by
  have h := divInt_parts (a := -a) (b := -b) (by omega)
  rw [← divInt_neg] at h
  have e : Int.gcd (-a) (-b) = Int.gcd a b := by simp
  rw [e] at h
  have k : ∀ c g : Int, (-c).fdiv g = c.fdiv (-g) := fun c g => by rw [← Int.neg_fdiv_neg, Int.neg_neg]
  rw [k, k] at h
  exact h

/-- a whole number -/
theorem den_pos (q : Rat) : (0 : Int) < q.den := by have := q.den_nz; omega
theorem coprime (q : Rat) : Int.gcd q.num q.den = 1 := q.reduced

/-- the sum's parts -/
def aG (x y : Rat) : Int := (Int.gcd x.den y.den : Nat)
def aB (x y : Rat) : Int := (x.den : Int).fdiv (aG x y)
def aD (x y : Rat) : Int := (y.den : Int).fdiv (aG x y)
def aT (x y : Rat) : Int := x.num * aD x y + y.num * aB x y
def aH (x y : Rat) : Int := (Int.gcd (aT x y) (aG x y) : Nat)
def aK (x y : Rat) : Int := (y.den : Int).fdiv (aH x y)

theorem aG_def (x y : Rat) : ((Int.gcd x.den y.den : Nat) : Int) = aG x y := rfl
theorem aB_def (x y : Rat) : (x.den : Int).fdiv (aG x y) = aB x y := rfl
theorem aD_def (x y : Rat) : (y.den : Int).fdiv (aG x y) = aD x y := rfl
theorem aH_def (x y : Rat) : ((Int.gcd (aT x y) (aG x y) : Nat) : Int) = aH x y := rfl
theorem aK_def (x y : Rat) : (y.den : Int).fdiv (aH x y) = aK x y := rfl
theorem aT_def (x y : Rat) : x.num * aD x y + y.num * aB x y = aT x y := rfl
theorem aG_pos (x y : Rat) : 0 < aG x y := gcdz_pos (by have := den_pos y; omega)
theorem aH_pos (x y : Rat) : 0 < aH x y := gcdz_pos (by have := aG_pos x y; omega)
theorem aB_mul (x y : Rat) : aB x y * aG x y = x.den := fdiv_of (aG_pos x y) (Int.gcd_dvd_left ..)
theorem aD_mul (x y : Rat) : aD x y * aG x y = y.den := fdiv_of (aG_pos x y) (Int.gcd_dvd_right ..)
theorem aH_T (x y : Rat) : (aT x y).fdiv (aH x y) * aH x y = aT x y := fdiv_of (aH_pos x y) (Int.gcd_dvd_left ..)
theorem aH_G (x y : Rat) : aH x y ∣ aG x y := Int.gcd_dvd_right ..
theorem aK_mul (x y : Rat) : aK x y * aH x y = y.den := fdiv_of (aH_pos x y) (Int.dvd_trans (aH_G x y) (Int.gcd_dvd_right ..))
theorem pos_of_mul {a b c : Int} (h : a * b = c) (hb : 0 < b) (hc : 0 < c) : 0 < a := by
  rcases Int.lt_or_le 0 a with k | k
  · exact k
  · exfalso
    have := Int.mul_nonpos_of_nonpos_of_nonneg k (Int.le_of_lt hb)
    omega
theorem aB_pos (x y : Rat) : 0 < aB x y := pos_of_mul (aB_mul x y) (aG_pos x y) (den_pos x)
theorem aD_pos (x y : Rat) : 0 < aD x y := pos_of_mul (aD_mul x y) (aG_pos x y) (den_pos y)
theorem aK_pos (x y : Rat) : 0 < aK x y := pos_of_mul (aK_mul x y) (aH_pos x y) (den_pos y)

theorem add_parts (x y : Rat) : (x + y).num = (aT x y).fdiv (aH x y) ∧ ((x + y).den : Int) = aB x y * aK x y := by
  have hg := aG_pos x y
  have hh := aH_pos x y
  -- x + y is t by aB * y.den
  have e1 : x + y = (aT x y) /. (aB x y * y.den) := by
    rw [Rat.add_def', ← Rat.divInt_ofNat]
    have k : (x.num * y.den + y.num * x.den) = aG x y * aT x y := by
      unfold aT
      rw [← aB_mul x y, ← aD_mul x y, Int.mul_comm (aG x y), Int.add_mul, Int.mul_assoc, Int.mul_assoc]
    have k2 : ((x.den * y.den : Nat) : Int) = aG x y * (aB x y * y.den) := by
      rw [Int.natCast_mul, ← aB_mul x y, Int.mul_comm (aG x y), Int.mul_right_comm]
    rw [k, k2, Rat.divInt_mul_left (Int.ne_of_gt hg)]
  have hp : 0 < aB x y * (y.den : Int) := Int.mul_pos (aB_pos x y) (den_pos y)
  have e2 := divInt_parts (a := aT x y) hp
  rw [← e1] at e2
  have e3 : (Int.gcd (aT x y) (aB x y * y.den) : Int) = aH x y := by
    have hgn : (aG x y) = ((x.den.gcd y.den : Nat) : Int) := rfl
    have hbn : aB x y = ((x.den / x.den.gcd y.den : Nat) : Int) := by
      unfold aB; rw [hgn, Int.fdiv_eq_ediv_of_nonneg _ (by omega)]; rfl
    have hdn : aD x y = ((y.den / x.den.gcd y.den : Nat) : Int) := by
      unfold aD; rw [hgn, Int.fdiv_eq_ediv_of_nonneg _ (by omega)]; rfl
    have hT : aT x y = x.num * ((y.den / x.den.gcd y.den : Nat) : Int) + y.num * ((x.den / x.den.gcd y.den : Nat) : Int) := by unfold aT; rw [hbn, hdn]
    have k := Rat.add.aux x y (g := x.den.gcd y.den) rfl rfl rfl
    simp only [] at k
    rw [← hT] at k
    unfold aH
    rw [hgn, hbn, ← Int.natCast_mul]
    unfold Int.gcd
    simp only [Int.natAbs_natCast]
    exact congrArg _ k.symm
  rw [e3] at e2
  refine ⟨e2.1, e2.2.trans ?_⟩
  have k := aK_mul x y
  have : aB x y * (y.den : Int) = (aB x y * aK x y) * aH x y := by rw [Int.mul_assoc, k]
  rw [this]
  exact Int.mul_fdiv_cancel _ (Int.ne_of_gt hh)

/-- Whatever is on the way of a sum fits. -/
def aFits (lim : Nat) (x y : Rat) : Prop := (x.num * aD x y).natAbs < lim ∧ (y.num * aB x y).natAbs < lim ∧ (aT x y).natAbs < lim ∧ (aB x y * aK x y).natAbs < lim
theorem aG_comm (x y : Rat) : aG x y = aG y x := by unfold aG; rw [Int.gcd_comm]
theorem aB_comm (x y : Rat) : aB x y = aD y x := by unfold aB aD; rw [aG_comm]
theorem aT_comm (x y : Rat) : aT x y = aT y x := by unfold aT; rw [aB_comm x y, ← aB_comm y x, Int.add_comm]
theorem den_comm (x y : Rat) : aB x y * aK x y = aB y x * aK y x := by rw [← (add_parts x y).2, ← (add_parts y x).2, Rat.add_comm]
theorem aFits_comm (lim : Nat) (x y : Rat) : aFits lim x y ↔ aFits lim y x := by
  unfold aFits
  rw [aT_comm x y, den_comm x y, ← aB_comm y x, aB_comm x y]
  constructor <;> (rintro ⟨h1, h2, h3, h4⟩; exact ⟨h2, h1, h3, h4⟩)

/-- the product's parts -/
def mG (x y : Rat) : Int := (Int.gcd x.num y.den : Nat)
theorem mG_def (x y : Rat) : ((Int.gcd x.num y.den : Nat) : Int) = mG x y := rfl
theorem mG_pos (x y : Rat) : 0 < mG x y := gcdz_pos (by have := den_pos y; omega)
def mN (x y : Rat) : Int := x.num.fdiv (mG x y)
def mD (x y : Rat) : Int := (y.den : Int).fdiv (mG x y)
theorem mN_def (x y : Rat) : x.num.fdiv (mG x y) = mN x y := rfl
theorem mD_def (x y : Rat) : (y.den : Int).fdiv (mG x y) = mD x y := rfl
theorem mN_mul (x y : Rat) : mN x y * mG x y = x.num := fdiv_of (mG_pos x y) (Int.gcd_dvd_left ..)
theorem mD_mul (x y : Rat) : mD x y * mG x y = y.den := fdiv_of (mG_pos x y) (Int.gcd_dvd_right ..)
theorem mD_pos (x y : Rat) : 0 < mD x y := pos_of_mul (mD_mul x y) (mG_pos x y) (den_pos y)
theorem cop_of_dvd {a b c d : Int} (h : Int.gcd a b = 1) (h1 : c ∣ a) (h2 : d ∣ b) : Int.gcd c d = 1 := by
  have h3 : (Int.gcd c d : Int) ∣ a := Int.dvd_trans (Int.gcd_dvd_left ..) h1
  have h4 : (Int.gcd c d : Int) ∣ b := Int.dvd_trans (Int.gcd_dvd_right ..) h2
  have h5 := Int.dvd_coe_gcd h3 h4
  rw [h] at h5
  have := Int.natCast_dvd_natCast.1 h5
  exact Nat.dvd_one.1 this
theorem mND (x y : Rat) : Int.gcd (mN x y) (mD x y) = 1 := by
  refine gcd_one_of_times (mG_pos x y) ?_
  have h := Int.gcd_mul_left (m := mG x y) (n := mN x y) (k := mD x y)
  rw [Int.mul_comm (mG x y) (mN x y), mN_mul, Int.mul_comm (mG x y) (mD x y), mD_mul] at h
  have e : ((mG x y).natAbs : Int) = mG x y := by have := mG_pos x y; omega
  rw [← e, ← Int.natCast_mul, ← h, e]
  rfl
theorem gcd_mul_one {a b c : Int} (h : Int.gcd a b = 1) (k : Int.gcd a c = 1) : Int.gcd a (b * c) = 1 := by
  unfold Int.gcd at h k ⊢
  rw [Int.natAbs_mul]
  exact Nat.Coprime.mul_right h k
theorem mul_parts (x y : Rat) : (x * y).num = mN x y * mN y x ∧ ((x * y).den : Int) = mD y x * mD x y := by
  refine rat_is (Int.mul_pos (mD_pos y x) (mD_pos x y)) ?_ ?_
  · rw [Int.gcd_comm]
    have c1 : Int.gcd (mN x y) (mD y x) = 1 := cop_of_dvd (coprime x) ⟨_, (mN_mul x y).symm⟩ ⟨_, (mD_mul y x).symm⟩
    have c2 : Int.gcd (mN y x) (mD x y) = 1 := cop_of_dvd (coprime y) ⟨_, (mN_mul y x).symm⟩ ⟨_, (mD_mul x y).symm⟩
    have a1 : Int.gcd (mN x y) (mD y x * mD x y) = 1 := gcd_mul_one c1 (mND x y)
    have a2 : Int.gcd (mN y x) (mD y x * mD x y) = 1 := gcd_mul_one (mND y x) c2
    rw [Int.gcd_comm] at a1 a2
    exact gcd_mul_one a1 a2
  · have e : (x * y) = (x.num * y.num) /. ((x.den * y.den : Nat) : Int) := by rw [Rat.mul_def', ← Rat.divInt_ofNat]
    have e2 : (x * y) = (x * y).num /. (x * y).den := (Rat.num_divInt_den _).symm
    have hz : ((x.den * y.den : Nat) : Int) ≠ 0 := by have := Nat.mul_ne_zero x.den_nz y.den_nz; omega
    have h := (Rat.divInt_eq_divInt_iff hz (by have := (x * y).den_nz; omega)).1 (e.symm.trans e2)
    have g1 := mG_pos x y
    have g2 := mG_pos y x
    apply Int.eq_of_mul_eq_mul_left (Int.ne_of_gt (Int.mul_pos g1 g2))
    rw [Int.natCast_mul, ← mN_mul x y, ← mN_mul y x, ← mD_mul x y, ← mD_mul y x] at h
    calc mG x y * mG y x * ((x * y).num * (mD y x * mD x y)) = (x * y).num * (mD y x * mG y x * (mD x y * mG x y)) := by simp only [Int.mul_comm, Int.mul_left_comm, Int.mul_assoc]
      _ = mN x y * mG x y * (mN y x * mG y x) * ((x * y).den) := h.symm
      _ = mG x y * mG y x * (mN x y * mN y x * (x * y).den) := by simp only [Int.mul_comm, Int.mul_left_comm, Int.mul_assoc]

theorem inv_is (x : Rat) : (x.den : Int) /. x.num = x⁻¹ := (Rat.inv_def x).symm
theorem floor_is (x : Rat) : x.num.fdiv x.den = x.floor := by rw [Rat.floor_def, Int.fdiv_eq_ediv_of_nonneg _ (by omega)]
theorem plus_is (x y : Rat) : (x.num * y.den + y.num * x.den) /. (x.den * y.den) = x + y := by rw [Rat.add_def', ← Rat.divInt_ofNat, Int.natCast_mul]
theorem times_is (x y : Rat) : (x.num * y.num) /. (x.den * y.den) = x * y := by rw [Rat.mul_def', ← Rat.divInt_ofNat, Int.natCast_mul]

/-- -1, 0 or 1. -/
def cmpQ (x y : Rat) : Int := (x.num * y.den - y.num * x.den).sign
theorem cmpQ_swap (x y : Rat) : cmpQ y x = - cmpQ x y := by
  unfold cmpQ; rw [← Int.sign_neg, Int.neg_sub]
theorem cmpQ_eq (x y : Rat) : cmpQ x y = 0 ↔ x = y := by
  unfold cmpQ; rw [Int.sign_eq_zero_iff_zero, Rat.eq_iff_mul_eq_mul]; omega
theorem cmpQ_lt (x y : Rat) : cmpQ x y = -1 ↔ x < y := by
  unfold cmpQ; rw [Int.sign_eq_neg_one_iff_neg, Rat.lt_iff]; omega
theorem cmpQ_gt (x y : Rat) : cmpQ x y = 1 ↔ y < x := by
  unfold cmpQ; rw [Int.sign_eq_one_iff_pos, Rat.lt_iff]; omega
theorem cmpQ_cases (x y : Rat) : cmpQ x y = -1 ∨ cmpQ x y = 0 ∨ cmpQ x y = 1 := by
  unfold cmpQ; rcases Int.lt_trichotomy (x.num * y.den - y.num * x.den) 0 with h | h | h
  · left; exact Int.sign_eq_neg_one_of_neg h
  · right; left; rw [h]; rfl
  · right; right; exact Int.sign_eq_one_of_pos h

/-- one round of the comparison by whole parts -/
theorem cmp_parts {a b c d p r q s : Int} (hb : 0 < b) (hd : 0 < d) (hp : a.fdiv b = p) (hr : a.fmod b = r) (hq : c.fdiv d = q) (hs : c.fmod d = s) :
    (p < q → (a * d - c * b).sign = -1) ∧ (q < p → (a * d - c * b).sign = 1) ∧ (p = q → a * d - c * b = d * r - b * s) ∧ 0 ≤ r ∧ r < b ∧ 0 ≤ s ∧ s < d := by
  have r0 : 0 ≤ r := hr ▸ Int.fmod_nonneg_of_pos a hb
  have r1 : r < b := hr ▸ Int.fmod_lt_of_pos a hb
  have s0 : 0 ≤ s := hs ▸ Int.fmod_nonneg_of_pos c hd
  have s1 : s < d := hs ▸ Int.fmod_lt_of_pos c hd
  have ea : a = r + b * p := by rw [← hr, ← hp]; exact (Int.fmod_add_mul_fdiv a b).symm
  have ec : c = s + d * q := by rw [← hs, ← hq]; exact (Int.fmod_add_mul_fdiv c d).symm
  have key : a * d - c * b = d * r - b * s + b * d * (p - q) := by
    rw [ea, ec, Int.add_mul, Int.add_mul, Int.mul_sub]
    have h1 : b * p * d = b * d * p := by simp only [Int.mul_comm, Int.mul_left_comm]
    have h2 : d * q * b = b * d * q := by simp only [Int.mul_comm, Int.mul_left_comm]
    have h3 : r * d = d * r := Int.mul_comm ..
    have h4 : s * b = b * s := Int.mul_comm ..
    omega
  have hbd : 0 < b * d := Int.mul_pos hb hd
  have l1 : d * r ≤ d * b - d := by have := Int.mul_le_mul_of_nonneg_left (a := r) (b := b - 1) (c := d) (by omega) (by omega); rw [Int.mul_sub, Int.mul_one] at this; exact this
  have l2 : b * s ≤ b * d - b := by have := Int.mul_le_mul_of_nonneg_left (a := s) (b := d - 1) (c := b) (by omega) (by omega); rw [Int.mul_sub, Int.mul_one] at this; exact this
  have l3 : 0 ≤ d * r := Int.mul_nonneg (by omega) r0
  have l4 : 0 ≤ b * s := Int.mul_nonneg (by omega) s0
  have l5 : d * b = b * d := Int.mul_comm ..
  refine ⟨fun h => Int.sign_eq_neg_one_of_neg ?_, fun h => Int.sign_eq_one_of_pos ?_, fun h => ?_, r0, r1, s0, s1⟩
  · have : b * d * (p - q) ≤ b * d * (-1) := Int.mul_le_mul_of_nonneg_left (by omega) (by omega)
    omega
  · have : b * d * 1 ≤ b * d * (p - q) := Int.mul_le_mul_of_nonneg_left (by omega) (by omega)
    omega
  · rw [key, h, Int.sub_self, Int.mul_zero, Int.add_zero]
end Go.Proofs.Ytidpbdhhbeaijab
/- Words for the walks: what a slice of numbers holds in a world; no statement of the seat is proved here. -/
namespace Go.Proofs.Ytidpbdhhbeaijab
open Go.RowKit

/-- The cells of a slice that begins at 'ao' hold the numbers xs. -/
def Seg (k : IntKind) (w : World) (ao : Option Addr) (xs : List Nat) : Prop :=
  xs = [] ∨ ∃ b off, ao = some ⟨b, off, none⟩ ∧ ∀ i, i < xs.length → w.cell? ⟨b, off + i, none⟩ = some (.int k (xs.getD i 0 : Nat))

theorem Seg.nil (k : IntKind) (w : World) (ao : Option Addr) : Seg k w ao [] := Or.inl rfl

theorem Seg.open {k : IntKind} {w : World} {ao : Option Addr} {xs : List Nat} (h : Seg k w ao xs) (i : Nat) (hi : i < xs.length) :
    ∃ b off, ao = some ⟨b, off, none⟩ ∧ ∀ j, j < xs.length → w.cell? ⟨b, off + j, none⟩ = some (.int k (xs.getD j 0 : Nat)) := by
  rcases h with h | h
  · subst h; simp at hi
  · exact h

theorem Seg.below {k : IntKind} {w w' : World} {ao : Option Addr} {xs : List Nat} (h : Seg k w ao xs) (hb : Below w.heap.size w w') : Seg k w' ao xs := by
  rcases h with h | ⟨b, off, rfl, hc⟩
  · exact Or.inl h
  · refine Or.inr ⟨b, off, rfl, fun i hi => ?_⟩
    have h1 := hc i hi
    have h2 : b < w.heap.size := World.block_lt_of_cell? w ⟨b, off + i, none⟩ h1
    rw [hb.cell (p := ⟨b, off + i, none⟩) h2]
    exact h1

theorem Seg.take {k : IntKind} {w : World} {ao : Option Addr} {xs : List Nat} (h : Seg k w ao xs) (n : Nat) : Seg k w ao (xs.take n) := by
  rcases h with h | ⟨b, off, rfl, hc⟩
  · subst h; exact Or.inl (by simp)
  · refine Or.inr ⟨b, off, rfl, fun i hi => ?_⟩
    simp only [List.length_take] at hi
    have e : (xs.take n).getD i 0 = xs.getD i 0 := by
      simp only [List.getD_eq_getElem?_getD, List.getElem?_take]
      rw [if_pos (by omega)]
    rw [hc i (by omega), e]

/-- A slice of numbers: its value, its numbers. -/
def Nums (k : IntKind) (w : World) (v : Value) (xs : List Nat) : Prop :=
  ∃ ao cap, v = .slice ao xs.length cap ∧ xs.length ≤ cap ∧ cap ≤ maxLen ∧ (ao = none → cap = 0) ∧ Seg k w ao xs

theorem Nums.below {k : IntKind} {w w' : World} {v : Value} {xs : List Nat} (h : Nums k w v xs) (hb : Below w.heap.size w w') : Nums k w' v xs := by
  obtain ⟨ao, cap, h1, h2, h3, h4, h5⟩ := h
  exact ⟨ao, cap, h1, h2, h3, h4, h5.below hb⟩

theorem Nums.nil (k : IntKind) (w : World) : Nums k w (.slice none 0 0) [] := ⟨none, 0, rfl, Nat.le_refl _, Nat.zero_le _, fun _ => rfl, Seg.nil _ _ _⟩

/-- Block g is a row of numbers, all its cells, and may be written. -/
def Row (k : IntKind) (t : TypeId) (w : World) (g : Nat) (zs : List Nat) : Prop :=
  w.heap[g]? = some (.cells (zs.map fun z => Value.int k (z : Nat)).toArray t (0, 0))

section
variable {k : IntKind} {t : TypeId} {w w' : World} {g : Nat} {zs : List Nat}

theorem Row.lt (h : Row k t w g zs) : g < w.heap.size := (Array.getElem?_eq_some_iff.1 h).1

theorem Row.cell (h : Row k t w g zs) (i : Nat) (hi : i < zs.length) : w.cell? ⟨g, i, none⟩ = some (.int k (zs.getD i 0 : Nat)) := by
  rw [cell_of_row w g i _ t (0, 0) h]
  simp [List.getElem?_eq_getElem hi]

theorem Row.frozen (h : Row k t w g zs) (i : Nat) : w.frozen? ⟨g, i, none⟩ = false := frozen_of_row w g i _ t h

theorem Row.set (h : Row k t w g zs) (i : Nat) (z : Int) (n : Nat) (hz : z = (n : Int)) : Row k t (w.setCell ⟨g, i, none⟩ (.int k z)) g (zs.set i n) := by
  subst hz
  unfold Row
  rw [heap_setCell_same w g i _ t _ h]
  simp

theorem Row.keep (h : Row k t w g zs) {B : Nat} (hb : Below B w w') (hg : g < B) : Row k t w' g zs := (hb.block g hg).trans h

theorem Row.other (h : Row k t w g zs) {a : Addr} (ha : a.block ≠ g) (v : Value) : Row k t (w.setCell a v) g zs :=
  (heap_setCell_other w a g v (fun e => ha e.symm)).trans h

theorem Row.alloc (h : Row k t w g zs) (o : Obj) : Row k t (w.alloc o) g zs := (Below.heap_alloc w o g h.lt).trans h

theorem Row.new (w : World) (k : IntKind) (t : TypeId) (zs : List Nat) : Row k t (w.alloc (.cells (zs.map fun z => Value.int k (z : Nat)).toArray t (0, 0))) w.heap.size zs := heap_alloc_new w _

theorem Row.seg (h : Row k t w g zs) (off n : Nat) (hn : off + n ≤ zs.length) : Seg k w (some ⟨g, off, none⟩) ((zs.drop off).take n) := by
  refine Or.inr ⟨g, off, rfl, fun i hi => ?_⟩
  simp only [List.length_take, List.length_drop] at hi
  rw [h.cell (off + i) (by omega)]
  congr 2
  simp only [List.getD_eq_getElem?_getD, List.getElem?_take, List.getElem?_drop]
  rw [if_pos (by omega)]

theorem Row.all (h : Row k t w g zs) : Seg k w (some ⟨g, 0, none⟩) zs := by
  have := h.seg 0 zs.length (by omega)
  simpa using this

theorem Row.first (h : Row k t w g zs) (n : Nat) (hn : n ≤ zs.length) : Seg k w (some ⟨g, 0, none⟩) (zs.take n) := by
  have := h.seg 0 n (by omega)
  simpa using this

theorem Row.nums (h : Row k t w g zs) (n cap : Nat) (hn : n ≤ zs.length) (hc : zs.length ≤ cap) (hm : cap ≤ maxLen) : Nums k w (.slice (some ⟨g, 0, none⟩) n cap) (zs.take n) := by
  refine ⟨_, cap, ?_, ?_, hm, (fun e => by cases e), h.first n hn⟩
  · rw [List.length_take, Nat.min_eq_left hn]
  · rw [List.length_take]; omega
end

/-- A block of a variable's own. -/
def Blk (t : TypeId) (w : World) (b : Nat) (cs : Array Value) : Prop := w.heap[b]? = some (.cells cs t (0, 0))

section
variable {t : TypeId} {w w' : World} {b : Nat} {cs : Array Value}
theorem Blk.lt (h : Blk t w b cs) : b < w.heap.size := (Array.getElem?_eq_some_iff.1 h).1
theorem Blk.cell (h : Blk t w b cs) (i : Nat) : w.cell? ⟨b, i, none⟩ = cs[i]? := cell_of_row w b i _ t (0, 0) h
theorem Blk.frozen (h : Blk t w b cs) (i : Nat) : w.frozen? ⟨b, i, none⟩ = false := frozen_of_row w b i _ t h
theorem Blk.keep (h : Blk t w b cs) {B : Nat} (hb : Below B w w') (hg : b < B) : Blk t w' b cs := (hb.block b hg).trans h
theorem Blk.stay (h : Blk t w b cs) (hb : Below w.heap.size w w') : Blk t w' b cs := h.keep hb h.lt
theorem Blk.alloc (h : Blk t w b cs) (o : Obj) : Blk t (w.alloc o) b cs := (Below.heap_alloc w o b h.lt).trans h
theorem Blk.other (h : Blk t w b cs) {a : Addr} (ha : a.block ≠ b) (v : Value) : Blk t (w.setCell a v) b cs := (heap_setCell_other w a b v (fun e => ha e.symm)).trans h
theorem Blk.new (w : World) (t : TypeId) (cs : Array Value) : Blk t (w.alloc (.cells cs t (0, 0))) w.heap.size cs := heap_alloc_new w _
theorem Blk.set (h : Blk t w b cs) (i : Nat) (v : Value) : Blk t (w.setCell ⟨b, i, none⟩ v) b (cs.setIfInBounds i v) := heap_setCell_same w b i _ t _ h
end

theorem Blk.drew {t : TypeId} {w : World} {b : Nat} {cs : Array Value} (h : Blk t w b cs) : Blk t w.drew b cs := h
theorem Seg.drew {k : IntKind} {w : World} {ao : Option Addr} {xs : List Nat} (h : Seg k w ao xs) : Seg k w.drew ao xs := h

theorem Blk.two {t : TypeId} {w : World} {b : Nat} {x y : Value} (h : Blk t w b #[x, y]) :
    w.cell? ⟨b, 0, none⟩ = some x ∧ w.cell? ⟨b, 1, none⟩ = some y ∧ w.frozen? ⟨b, 0, none⟩ = false ∧ w.frozen? ⟨b, 1, none⟩ = false :=
  ⟨h.cell 0, h.cell 1, h.frozen 0, h.frozen 1⟩
theorem Blk.one {t : TypeId} {w : World} {b : Nat} {x : Value} (h : Blk t w b #[x]) : w.cell? ⟨b, 0, none⟩ = some x ∧ w.frozen? ⟨b, 0, none⟩ = false := ⟨h.cell 0, h.frozen 0⟩

/-- Numbers don't lie in a struct's variable: what is stored there leaves them. -/
theorem Seg.store2 {k : IntKind} {w : World} {ao : Option Addr} {xs : List Nat} (h : Seg k w ao xs) {t : TypeId} {b : Nat} {x : Bool} {a : Option Addr} {n c : Nat} (hB : Blk t w b #[.bool x, .slice a n c]) (y : Bool) (a' : Option Addr) (n' c' : Nat) :
    Seg k ((w.setCell ⟨b, 0, none⟩ (.bool y)).setCell ⟨b, 1, none⟩ (.slice a' n' c')) ao xs := by
  rcases h with h | ⟨g, off, rfl, hc⟩
  · exact Or.inl h
  · refine Or.inr ⟨g, off, rfl, fun i hi => ?_⟩
    have h1 := hc i hi
    have hne : g ≠ b := by
      intro e
      subst e
      rw [hB.cell (off + i)] at h1
      have h2 : off + i = 0 ∨ off + i = 1 ∨ 2 ≤ off + i := by omega
      rcases h2 with h2 | h2 | h2
      · rw [h2] at h1; simp at h1
      · rw [h2] at h1; simp at h1
      · rw [Array.getElem?_eq_none (by simp; omega)] at h1; cases h1
    have e1 : ((w.setCell ⟨b, 0, none⟩ (.bool y)).setCell ⟨b, 1, none⟩ (.slice a' n' c')).heap[g]? = w.heap[g]? := by
      rw [heap_setCell_other _ ⟨b, 1, none⟩ g _ hne, heap_setCell_other _ ⟨b, 0, none⟩ g _ hne]
    rw [World.cell?_of_block (a := ⟨g, off + i, none⟩) e1]
    exact h1

theorem below_store2 {w w1 : World} {B b : Nat} (h : Below B w w1) (hb : B ≤ b) (u v : Value) : Below B w ((w1.setCell ⟨b, 0, none⟩ u).setCell ⟨b, 1, none⟩ v) := (h.setCell (p := ⟨b, 0, none⟩) hb u).setCell (p := ⟨b, 1, none⟩) hb v

/-- Block g alone has been written; nothing is new. -/
structure Only (g : Nat) (w w' : World) : Prop where
  os : w'.os = w.os
  tape : w'.tape = w.tape
  output : w'.output = w.output
  size : w'.heap.size = w.heap.size
  block : ∀ k, k ≠ g → w'.heap[k]? = w.heap[k]?

theorem Only.refl (g : Nat) (w : World) : Only g w w := ⟨rfl, rfl, rfl, rfl, fun _ _ => rfl⟩
theorem Only.set {g : Nat} {w w' : World} (h : Only g w w') (i : Nat) (v : Value) : Only g w (w'.setCell ⟨g, i, none⟩ v) :=
  ⟨h.os, h.tape, h.output, by rw [← h.size]; simp, fun k hk => (heap_setCell_other w' ⟨g, i, none⟩ k v hk).trans (h.block k hk)⟩
theorem Only.trans {g : Nat} {a b c : World} (h : Only g a b) (k : Only g b c) : Only g a c :=
  ⟨k.os.trans h.os, k.tape.trans h.tape, k.output.trans h.output, k.size.trans h.size, fun i hi => (k.block i hi).trans (h.block i hi)⟩
theorem Only.below {g : Nat} {w w' : World} (h : Only g w w') {B : Nat} (hB : B ≤ g) : Below B w w' :=
  ⟨h.os, h.tape, h.output, by rw [h.size]; exact Nat.le_refl _, fun k hk => h.block k (by omega)⟩
theorem Only.row {g : Nat} {w w' : World} (h : Only g w w') {k : IntKind} {t : TypeId} {b : Nat} {zs : List Nat} (hr : Row k t w b zs) (hb : b ≠ g) : Row k t w' b zs := (h.block b hb).trans hr
theorem Only.blk {g : Nat} {w w' : World} (h : Only g w w') {t : TypeId} {b : Nat} {cs : Array Value} (hr : Blk t w b cs) (hb : b ≠ g) : Blk t w' b cs := (h.block b hb).trans hr
theorem Only.seg {g : Nat} {w w' : World} (h : Only g w w') {k : IntKind} {ao : Option Addr} {xs : List Nat} (hs : Seg k w ao xs) (hne : ∀ a, ao = some a → a.block ≠ g) : Seg k w' ao xs := by
  rcases hs with hs | ⟨b, off, rfl, hc⟩
  · exact Or.inl hs
  · refine Or.inr ⟨b, off, rfl, fun i hi => ?_⟩
    rw [World.cell?_of_block (a := ⟨b, off + i, none⟩) (h.block b (hne _ rfl))]
    exact hc i hi

/-- A world that came out of a call made behind some allocations. -/
theorem _root_.Go.RowKit.Below.step {B : Nat} {w0 w1 w2 : World} (h : Below B w0 w1) (k : Below w1.heap.size w1 w2) (hB : B ≤ w0.heap.size) : Below B w0 w2 := h.trans (k.mono (Nat.le_trans hB h.size))

theorem Seg.lt {k : IntKind} {w : World} {ao : Option Addr} {xs : List Nat} (h : Seg k w ao xs) (a : Addr) (ha : ao = some a) (hne : 0 < xs.length) : a.block < w.heap.size := by
  obtain ⟨b, off, e, hc⟩ := h.open 0 hne
  rw [ha] at e
  cases e
  exact World.block_lt_of_cell? w ⟨b, off + 0, none⟩ (hc 0 hne)

/-- The cells of the slice stay while blocks below B stay, if the slice lies below B. -/
theorem Seg.keep {k : IntKind} {w w' : World} {ao : Option Addr} {xs : List Nat} (h : Seg k w ao xs) {B : Nat} (hb : Below B w w') (hB : w.heap.size ≤ B) : Seg k w' ao xs := h.below (hb.mono hB)

/-- 'make([]T, n)' of numbers. -/
theorem wpList_make_nums {P : Program} (w : World) {ops : Array Oper} {rest : List Oper} {o : Oper} {a : Act} {Q : Exit → Act → World → Prop}
    (hg : o.guard = none) (l c : Operand) (t : TypeId) (hop : o.op = Op.makeSlice t l c)
    (e : TypeId) (k : IntKind) (bytes : Nat) (h1 : P.underlying t = some (.slice e)) (h2 : (P.info? e).map (fun i => (i.zero, i.size, i.bytes)) = some (some (.int k 0), 1, bytes))
    (kl kc : IntKind) (L C : Int) (n : Nat) (hl : a.eval l = .int kl L) (hc : a.eval c = .int kc C) (hL : L = (n : Int)) (hC : C = (n : Int)) (hby : bytes ≤ 64) (hnn : n ≤ 10000)
    (hK : ∀ w', Row k e w' w.heap.size (List.replicate n 0) → Below w.heap.size w w' → w'.heap.size = w.heap.size + 1 → wpList P ops Q rest (a.put o.dst (.slice (some ⟨w.heap.size, 0, none⟩) n n)) w') :
    wpList P ops Q (o :: rest) a w := by
  obtain ⟨i, hi, hz0, hz1, hz2⟩ := info_parts h2
  subst hL
  subst hC
  refine wpList_plain hg fun K hK' => ?_
  have b2 : bytes * n ≤ 64 * 10000 := Nat.mul_le_mul hby hnn
  have b3' : (n : Int) ≤ 9223372036854775807 := by omega
  have hb' : (i.bytes : Int) * (n : Int) ≤ 281474976710656 := by
    rw [hz2]
    have h : ((bytes * n : Nat) : Int) ≤ 281474976710656 := by omega
    rwa [Int.natCast_mul] at h
  have hr := run_make (P := P) w t e i (.int k 0) h1 hi hz0 kl kc n n (by omega) (Int.le_refl _) hb' b3'
  have e1 : madeCells (Value.int k 0).cells n = ((List.replicate n 0).map fun z => Value.int k ((z : Nat) : Int)).toArray := by
    rw [show (Value.int k 0).cells = #[Value.int k 0] from rfl]
    apply Array.toList_inj.1
    rw [toList_madeCells_one]
    simp
  simp only [Int.toNat_natCast, hz1, Nat.mul_one, e1] at hr
  unfold Oper.wp
  simp [execOp, hop, hl, hc, hr, Result.andThen, -List.map_replicate, -List.toArray_replicate, -List.map_toArray]
  refine hK' _ _ (hK _ (Row.new w k e _) ?_ ?_)
  · exact (Below.refl _ _).alloc (Nat.le_refl _) _
  · simp

/-- 'copy(out, src)', out a row of the call's own, at least as long. -/
theorem wpList_copy_nums {P : Program} {w : World} {ops : Array Oper} {rest : List Oper} {o : Oper} {a : Act} {Q : Exit → Act → World → Prop} (hgd : o.guard = none) (d s : Operand) (dT : TypeId)
    (ho : o.op = .call { callee := .builtin .copy, args := #[d, s], argTypes := #[dT, dT] }) (e : TypeId) (k : IntKind) (bytes : Nat) (h1 : P.underlying dT = some (.slice e)) (h2 : (P.info? e).map (fun i => (i.zero, i.size, i.bytes)) = some (some (.int k 0), 1, bytes))
    (g dLen dCap : Nat) (ao : Option Addr) (n cap : Nat) (hd : a.eval d = .slice (some ⟨g, 0, none⟩) dLen dCap) (hs : a.eval s = .slice ao n cap)
    (zs xs : List Nat) (hg : Row k e w g zs) (hz : zs.length = dLen) (hx : xs.length = n) (hsrc : Seg k w ao xs) (hle : n ≤ dLen)
    (hK : ∀ w', Row k e w' g (xs ++ zs.drop n) → Below g w w' → w'.heap.size = w.heap.size → wpList P ops Q rest (a.put o.dst (goInt n)) w') :
    wpList P ops Q (o :: rest) a w := by
  obtain ⟨i, hi, hz0, hz1, hz2⟩ := info_parts h2
  have hsz : (P.info? e).map (·.size) = some 1 := by rw [hi]; simp [hz1]
  subst hx
  subst hz
  by_cases h0 : xs.length = 0
  · obtain rfl : xs = [] := List.eq_nil_of_length_eq_zero h0
    refine wpList_copy_nothing hgd d s dT dT ho e h1 hsz _ _ _ _ _ _ hd hs (by simp) ?_
    exact hK w (by simpa using hg) (Below.refl _ _) rfl
  · obtain ⟨b, off, rfl, hc⟩ := hsrc.open 0 (by omega)
    refine wpList_copy_own hgd d s dT dT ho e h1 hsz g 0 _ _ ⟨b, off, none⟩ _ _ hd hs _ e hg (xs.map fun z => Value.int k ((z : Nat) : Int)) ?_ ?_ ?_ ?_ ?_
    · rw [List.length_map]; exact (Nat.min_eq_left hle).symm
    · intro j v hv
      have hj : j < xs.length := by simpa using (List.getElem?_eq_some_iff.1 hv).1
      rw [Addr.add_lit, hc j hj]
      simp only [List.getElem?_map, List.getElem?_eq_getElem hj, Option.map_some, Option.some.injEq] at hv
      rw [← hv, List.getD_eq_getElem?_getD, List.getElem?_eq_getElem hj]
      rfl
    · simp; omega
    · intro v hv
      obtain ⟨_, _, rfl⟩ := List.mem_map.1 hv
      rfl
    · have e2 : (goInt ((xs.map fun z => Value.int k ((z : Nat) : Int)).length)) = goInt xs.length := by simp
      rw [e2]
      refine hK _ ?_ (below_setRow (Below.refl _ _) (Nat.le_refl _) _) (by simp [World.setRow])
      unfold Row
      rw [setRow_heap w g _ _ e _ hg]
      simp

end Go.Proofs.Ytidpbdhhbeaijab
/- Plain facts on lists of digits of a base: their value, noughts at the end, order; no program is spoken of here. -/
namespace Go.Proofs.Ytidpbdhhbeaijab

/-- The number that digits of base B write, the lowest first. -/
def val (B : Nat) : List Nat → Nat
  | [] => 0
  | x :: r => x + B * val B r

/-- Without noughts at the end. -/
def trimZ : List Nat → List Nat
  | [] => []
  | x :: r => if trimZ r = [] ∧ x = 0 then [] else x :: trimZ r

/-- Each is a digit. -/
def Digs (B : Nat) (xs : List Nat) : Prop := ∀ x, x ∈ xs → x < B

theorem Digs.nil (B : Nat) : Digs B [] := fun _ h => by simp at h
theorem Digs.tail {B x : Nat} {r : List Nat} (h : Digs B (x :: r)) : Digs B r := fun y hy => h y (List.mem_cons_of_mem _ hy)
theorem Digs.head {B x : Nat} {r : List Nat} (h : Digs B (x :: r)) : x < B := h x (List.mem_cons_self ..)
theorem Digs.cons {B x : Nat} {r : List Nat} (hx : x < B) (h : Digs B r) : Digs B (x :: r) := by
  intro y hy
  rcases List.mem_cons.1 hy with h' | h'
  · subst h'; exact hx
  · exact h y h'
theorem Digs.append {B : Nat} {a b : List Nat} (ha : Digs B a) (hb : Digs B b) : Digs B (a ++ b) := by
  intro y hy
  rcases List.mem_append.1 hy with h' | h'
  · exact ha y h'
  · exact hb y h'
theorem Digs.take {B : Nat} {a : List Nat} (ha : Digs B a) (n : Nat) : Digs B (a.take n) := fun y hy => ha y (List.mem_of_mem_take hy)
theorem Digs.drop {B : Nat} {a : List Nat} (ha : Digs B a) (n : Nat) : Digs B (a.drop n) := fun y hy => ha y (List.mem_of_mem_drop hy)
theorem Digs.getD {B : Nat} {a : List Nat} (ha : Digs B a) (hB : 0 < B) (i : Nat) : a.getD i 0 < B := by
  rw [List.getD_eq_getElem?_getD]
  cases h : a[i]? with
  | none => simpa using hB
  | some y => simpa using ha y (List.mem_of_getElem? h)
theorem Digs.get {B : Nat} {a : List Nat} (ha : Digs B a) (hB : 0 < B) (i : Nat) : a[i]?.getD 0 < B := by
  rw [← List.getD_eq_getElem?_getD]; exact ha.getD hB i

theorem val_nil (B : Nat) : val B [] = 0 := rfl
theorem val_cons (B x : Nat) (r : List Nat) : val B (x :: r) = x + B * val B r := rfl

theorem val_append (B : Nat) (a b : List Nat) : val B (a ++ b) = val B a + B ^ a.length * val B b := by
  induction a with
  | nil => simp [val]
  | cons x r ih =>
    simp only [List.cons_append, val, ih, List.length_cons, Nat.pow_succ, Nat.mul_add, Nat.add_assoc]
    congr 2
    rw [← Nat.mul_assoc, Nat.mul_comm B]

theorem val_snoc (B : Nat) (a : List Nat) (x : Nat) : val B (a ++ [x]) = val B a + B ^ a.length * x := by
  rw [val_append]; simp [val]

theorem take_snoc (xs : List Nat) (k : Nat) (h : k < xs.length) : xs.take (k + 1) = xs.take k ++ [xs.getD k 0] := by
  rw [List.take_succ_eq_append_getElem h, List.getD_eq_getElem?_getD, List.getElem?_eq_getElem h]; rfl

theorem val_take_succ (B : Nat) (xs : List Nat) (k : Nat) (h : k < xs.length) : val B (xs.take (k + 1)) = val B (xs.take k) + B ^ k * xs.getD k 0 := by
  rw [take_snoc xs k h, val_snoc, List.length_take, Nat.min_eq_left (Nat.le_of_lt h)]

theorem val_lt {B : Nat} {xs : List Nat} (h : Digs B xs) : val B xs < B ^ xs.length := by
  induction xs with
  | nil => simp [val]
  | cons x r ih =>
    have h1 := ih h.tail
    have h2 := h.head
    simp only [val, List.length_cons, Nat.pow_succ]
    have h3 : B * (val B r + 1) ≤ B * B ^ r.length := Nat.mul_le_mul_left _ h1
    rw [Nat.mul_add, Nat.mul_one] at h3
    rw [Nat.mul_comm (B ^ r.length) B]
    omega

theorem val_replicate_zero (B n : Nat) : val B (List.replicate n 0) = 0 := by
  induction n with
  | zero => rfl
  | succ n ih => simp [List.replicate_succ, val, ih]

theorem trimZ_nil : trimZ [] = [] := rfl

theorem val_trimZ (B : Nat) (xs : List Nat) : val B (trimZ xs) = val B xs := by
  induction xs with
  | nil => rfl
  | cons x r ih =>
    simp only [trimZ]
    split
    · next h => obtain ⟨h1, h2⟩ := h; rw [h1] at ih; simp [val] at ih ⊢; rw [← ih, h2]; simp
    · simp [val, ih]

theorem trimZ_snoc_zero (l : List Nat) : trimZ (l ++ [0]) = trimZ l := by
  induction l with
  | nil => simp [trimZ]
  | cons x r ih => simp [trimZ, ih]

theorem trimZ_snoc_ne (l : List Nat) (x : Nat) (h : x ≠ 0) : trimZ (l ++ [x]) = l ++ [x] := by
  induction l with
  | nil => simp [trimZ, h]
  | cons y r ih => simp [trimZ, ih]

theorem trimZ_take (xs : List Nat) : trimZ xs = xs.take (trimZ xs).length := by
  induction xs with
  | nil => rfl
  | cons x r ih =>
    simp only [trimZ]
    split
    · simp
    · simp only [List.length_cons, List.take_succ_cons]; rw [← ih]

theorem trimZ_length_le (xs : List Nat) : (trimZ xs).length ≤ xs.length := by
  have h := congrArg List.length (trimZ_take xs)
  rw [List.length_take] at h
  omega

theorem Digs.trimZ {B : Nat} {xs : List Nat} (h : Digs B xs) : Digs B (trimZ xs) := by
  rw [trimZ_take]; exact h.take _

/-- No nought at the end. -/
def Norm (xs : List Nat) : Prop := trimZ xs = xs

theorem Norm.nil : Norm [] := rfl

theorem norm_trimZ (xs : List Nat) : Norm (trimZ xs) := by
  induction xs with
  | nil => rfl
  | cons x r ih =>
    unfold Norm at ih ⊢
    by_cases h : trimZ r = [] ∧ x = 0
    · rw [show trimZ (x :: r) = [] by simp [trimZ, h]]; rfl
    · have e : trimZ (x :: r) = x :: trimZ r := by simp only [trimZ]; rw [if_neg h]
      rw [e]
      simp only [trimZ, ih]
      rw [if_neg h]

theorem Norm.tail {x : Nat} {r : List Nat} (h : Norm (x :: r)) : Norm r := by
  unfold Norm at h ⊢
  simp only [trimZ] at h
  split at h
  · cases h
  · exact (List.cons.inj h).2

theorem Norm.pos {B : Nat} {xs : List Nat} (h : Norm xs) (hne : xs ≠ []) : 0 < val B xs ∨ B = 0 := by
  induction xs with
  | nil => exact absurd rfl hne
  | cons x r ih =>
    by_cases hr : r = []
    · subst hr
      unfold Norm at h
      simp only [trimZ] at h
      split at h
      · cases h
      · next h' => simp at h'; left; simp [val]; omega
    · rcases ih h.tail hr with h1 | h1
      · by_cases hB : B = 0
        · exact Or.inr hB
        · left; simp only [val]; exact Nat.lt_of_lt_of_le (Nat.mul_pos (Nat.pos_of_ne_zero hB) h1) (Nat.le_add_left _ _)
      · exact Or.inr h1

theorem Norm.ge {B : Nat} {xs : List Nat} (h : Norm xs) (hne : xs ≠ []) (hB : 0 < B) : B ^ (xs.length - 1) ≤ val B xs := by
  induction xs with
  | nil => exact absurd rfl hne
  | cons x r ih =>
    by_cases hr : r = []
    · subst hr
      have := (h.pos (B := B) (by simp)).resolve_right (by omega)
      simp; omega
    · have h1 := ih h.tail hr
      have hl : 0 < r.length := List.length_pos_iff.2 hr
      simp only [val, List.length_cons, Nat.add_sub_cancel]
      have e : B ^ r.length = B * B ^ (r.length - 1) := by
        rw [Nat.mul_comm, ← Nat.pow_succ]; congr 1; omega
      rw [e]
      exact Nat.le_trans (Nat.mul_le_mul_left _ h1) (Nat.le_add_left _ _)

theorem Norm.eq_nil {B : Nat} {xs : List Nat} (h : Norm xs) (hB : 0 < B) (hv : val B xs = 0) : xs = [] := by
  by_cases hne : xs = []
  · exact hne
  · have := (h.pos (B := B) hne).resolve_right (by omega)
    omega

theorem Norm.nil_iff {B : Nat} {xs : List Nat} (h : Norm xs) (hB : 0 < B) : xs = [] ↔ val B xs = 0 :=
  ⟨fun e => by rw [e]; rfl, fun e => h.eq_nil hB e⟩

theorem Norm.last {xs : List Nat} (h : Norm xs) (hne : 0 < xs.length) : xs.getD (xs.length - 1) 0 ≠ 0 := by
  intro e
  have h1 := take_snoc xs (xs.length - 1) (by omega)
  rw [show xs.length - 1 + 1 = xs.length by omega, List.take_length, e] at h1
  unfold Norm at h
  have h2 := congrArg trimZ h1
  rw [h, trimZ_snoc_zero] at h2
  have h3 := congrArg List.length h2
  have h4 := trimZ_length_le (xs.take (xs.length - 1))
  simp only [List.length_take] at h4
  omega

/-- Of two lists of digits without noughts at their ends the longer one is the greater number. -/
theorem val_lt_of_length {B : Nat} {xs ys : List Nat} (hx : Digs B xs) (hy : Norm ys) (hB : 0 < B) (h : xs.length < ys.length) : val B xs < val B ys := by
  have h1 := val_lt hx
  have h2 := hy.ge (B := B) (by intro e; subst e; simp at h) hB
  have h3 : B ^ xs.length ≤ B ^ (ys.length - 1) := Nat.pow_le_pow_right hB (by omega)
  omega

theorem val_inj {B : Nat} {xs ys : List Nat} (hx : Digs B xs) (hy : Digs B ys) (hl : xs.length = ys.length) (h : val B xs = val B ys) : xs = ys := by
  induction xs generalizing ys with
  | nil => cases ys with
    | nil => rfl
    | cons y s => simp at hl
  | cons x r ih => cases ys with
    | nil => simp at hl
    | cons y s =>
      simp only [val] at h
      have hx0 := hx.head
      have hy0 := hy.head
      have h1 : x = y := by
        have a := congrArg (· % B) h
        simp only [Nat.add_mul_mod_self_left] at a
        rwa [Nat.mod_eq_of_lt hx0, Nat.mod_eq_of_lt hy0] at a
      subst h1
      have h2 : val B r = val B s := Nat.eq_of_mul_eq_mul_left (show 0 < B by omega) (Nat.add_left_cancel h)
      rw [ih hx.tail hy.tail (by simpa using hl) h2]

theorem Norm.inj {B : Nat} {xs ys : List Nat} (hx : Digs B xs) (hy : Digs B ys) (nx : Norm xs) (ny : Norm ys) (hB : 0 < B) (h : val B xs = val B ys) : xs = ys := by
  apply val_inj hx hy _ h
  rcases Nat.lt_trichotomy xs.length ys.length with h1 | h1 | h1
  · have := val_lt_of_length hx ny hB h1; omega
  · exact h1
  · have := val_lt_of_length hy nx hB h1; omega

theorem trimZ_eq_of_zeros (xs : List Nat) (k : Nat) (hk : k ≤ xs.length) (h : ∀ i, k ≤ i → i < xs.length → xs.getD i 0 = 0) : trimZ xs = trimZ (xs.take k) := by
  induction hn : xs.length - k generalizing k with
  | zero => rw [List.take_of_length_le (by omega)]
  | succ n ih =>
    rw [ih (k + 1) (by omega) (fun i h1 h2 => h i (by omega) h2) (by omega), take_snoc xs k (by omega), h k (Nat.le_refl _) (by omega), trimZ_snoc_zero]

theorem take_set_succ (zs : List Nat) (k d : Nat) (hk : k < zs.length) : (zs.set k d).take (k + 1) = zs.take k ++ [d] := by
  rw [take_snoc _ k (by simpa using hk), List.take_set_of_le (Nat.le_refl k)]
  simp [List.getD_eq_getElem?_getD, hk]

theorem val_set_succ (B : Nat) (zs : List Nat) (k d : Nat) (hk : k < zs.length) : val B ((zs.set k d).take (k + 1)) = val B (zs.take k) + B ^ k * d := by
  rw [take_set_succ zs k d hk, val_snoc, List.length_take, Nat.min_eq_left (Nat.le_of_lt hk)]

theorem Digs.set {B : Nat} {zs : List Nat} (h : Digs B zs) (k d : Nat) (hd : d < B) : Digs B (zs.set k d) := by
  intro y hy
  rcases List.mem_or_eq_of_mem_set hy with h' | h'
  · exact h y h'
  · subst h'; exact hd

theorem Digs.replicate (B n : Nat) (hB : 0 < B) : Digs B (List.replicate n 0) := by
  intro y hy
  have := List.eq_of_mem_replicate hy
  subst this; exact hB

theorem val_take_succ' (B : Nat) (xs : List Nat) (k : Nat) : val B (xs.take (k + 1)) = val B (xs.take k) + B ^ k * xs.getD k 0 := by
  rcases Nat.lt_or_ge k xs.length with h | h
  · exact val_take_succ B xs k h
  · rw [List.take_of_length_le (by omega), List.take_of_length_le h, List.getD_eq_getElem?_getD, List.getElem?_eq_none h]
    simp

theorem norm_of_ge {B : Nat} {zs : List Nat} (hB : 2 ≤ B) (hd : Digs B zs) (hl : 0 < zs.length) (h : B ^ (zs.length - 1) ≤ val B zs) : Norm zs := by
  have h1 := val_lt hd.trimZ
  rw [val_trimZ] at h1
  have h2 := trimZ_length_le zs
  have h3 : zs.length - 1 < (trimZ zs).length := by
    rcases Nat.lt_or_ge (zs.length - 1) (trimZ zs).length with h4 | h4
    · exact h4
    · have : B ^ (trimZ zs).length ≤ B ^ (zs.length - 1) := Nat.pow_le_pow_right (by omega) h4
      omega
  unfold Norm
  have h5 := trimZ_take zs
  rw [List.take_of_length_le (by omega)] at h5
  exact h5

theorem plus_step (P A c X Y x y d c' B : Nat) (h : A + P * c = X + Y) (hs : d + B * c' = c + x + y) : (A + P * d) + P * B * c' = (X + P * x) + (Y + P * y) := by
  have e := congrArg (P * ·) hs
  simp only [Nat.mul_add, Nat.mul_assoc] at *
  omega

theorem scale_step (P A c V x f m d c' B : Nat) (h : A + P * c = V * f + m) (hs : d + B * c' = x * f + c) : (A + P * d) + P * B * c' = (V + P * x) * f + m := by
  have e := congrArg (P * ·) hs
  simp only [Nat.mul_add, Nat.add_mul, Nat.mul_assoc] at *
  omega

end Go.Proofs.Ytidpbdhhbeaijab
/- Words for slices that a call makes by append: what they hold, and the law of one append; no statement of the seat is proved here. -/
namespace Go.Proofs.Ytidpbdhhbeaijab
open Go.RowKit

/-- The slice value v is the call's own and holds the numbers zs. -/
def Own (k : IntKind) (e : TypeId) (base : Nat) (w : World) (v : Value) (zs : List Nat) : Prop :=
  w.ownsRow base e 1 v zs.length (zs.map fun z => Value.int k ((z : Nat) : Int))

section
variable {k : IntKind} {e : TypeId} {base : Nat} {w w' : World} {v : Value} {zs : List Nat}

theorem Own.nil (k : IntKind) (e : TypeId) (base : Nat) (w : World) : Own k e base w (.slice none 0 0) [] := World.ownsRow_nil _ _ _ _

theorem Own.alloc (h : Own k e base w v zs) (o : Obj) : Own k e base (w.alloc o) v zs := World.ownsRow.alloc h o

theorem Own.lt (h : Own k e base w v zs) : ∀ b, v.ownBlock = some b → base ≤ b ∧ b < w.heap.size := World.ownsRow.lt h

/-- It stays while its block stays. -/
theorem Own.stay (h : Own k e base w v zs) (hb : ∀ b, v.ownBlock = some b → w'.heap[b]? = w.heap[b]?) : Own k e base w' v zs := by
  refine ⟨h.1, ?_⟩
  rcases h.2 with hn | ⟨g, cap, cur, rfl, hbg, hg, r⟩
  · exact Or.inl hn
  · exact Or.inr ⟨g, cap, cur, rfl, hbg, (hb g rfl).trans hg, r⟩

theorem Own.below (h : Own k e base w v zs) (hb : Below w.heap.size w w') : Own k e base w' v zs := h.stay fun b hv => hb.block b (h.lt b hv).2

theorem Own.mono (h : Own k e base w v zs) {base' : Nat} (hb : base' ≤ base) : Own k e base' w v zs := by
  refine ⟨h.1, ?_⟩
  rcases h.2 with hn | ⟨g, cap, cur, rfl, hbg, r⟩
  · exact Or.inl hn
  · exact Or.inr ⟨g, cap, cur, rfl, Nat.le_trans hb hbg, r⟩

theorem Own.only (h : Own k e base w v zs) {g : Nat} (ho : Only g w w') (hg : g < base) : Own k e base w' v zs := h.stay fun b hv => ho.block b (by have := (h.lt b hv).1; omega)

/-- Its shape, and its cells. -/
theorem Own.open (h : Own k e base w v zs) : ∃ ao cap, v = .slice ao zs.length cap ∧ zs.length ≤ cap ∧ cap ≤ maxLen ∧ Seg k w ao zs ∧ (∀ a, ao = some a → base ≤ a.block ∧ a.off = 0 ∧ a.block < w.heap.size) := by
  rcases h.2 with ⟨rfl, hn⟩ | ⟨g, cap, cur, rfl, hbg, hg, h1, h2, h3, h4⟩
  · have : zs = [] := List.eq_nil_of_length_eq_zero hn
    subst this
    exact ⟨none, 0, rfl, Nat.le_refl _, Nat.zero_le _, Seg.nil _ _ _, fun a ha => by cases ha⟩
  · refine ⟨some ⟨g, 0, none⟩, cap, rfl, h1, h2, Or.inr ⟨g, 0, rfl, fun i hi => ?_⟩, fun a ha => ?_⟩
    · rw [Nat.zero_add, cell_of_row w g i cur e (0, 0) hg]
      have h5 := congrArg (fun l => l[i]?) h4
      simp only [Nat.mul_one, List.getElem?_take, if_pos hi, List.getElem?_map, List.getElem?_eq_getElem hi, Option.map_some] at h5
      rw [← Array.getElem?_toList, h5, List.getD_eq_getElem?_getD, List.getElem?_eq_getElem hi]
      rfl
    · cases ha
      exact ⟨hbg, rfl, (Array.getElem?_eq_some_iff.1 hg).1⟩

/-- The first of them. -/
theorem Own.take {ao : Option Addr} {n cap : Nat} (h : Own k e base w (.slice ao n cap) zs) (m : Nat) (hm : m ≤ zs.length) (hne : ao ≠ none) : Own k e base w (.slice ao m cap) (zs.take m) := by
  rcases h.2 with ⟨h1, _⟩ | ⟨g, cap', cur, h1, hbg, hg, h2, h3, h4, h5⟩
  · cases h1; exact absurd rfl hne
  · cases h1
    refine ⟨by simp, Or.inr ⟨g, cap, cur, ?_, hbg, hg, ?_, h3, h4, ?_⟩⟩
    · rw [List.length_take, Nat.min_eq_left hm]
    · rw [List.length_take]; omega
    · rw [List.map_take, ← h5]
      simp only [Nat.mul_one, List.length_take, List.take_take]
theorem Own.set {g n cap : Nat} (h : Own k e base w (.slice (some ⟨g, 0, none⟩) n cap) zs) (j : Nat) (X : Int) (x : Nat) (hX : X = (x : Int)) :
    Own k e base (w.setCell ⟨g, j, none⟩ (.int k X)) (.slice (some ⟨g, 0, none⟩) n cap) (zs.set j x) := by
  subst hX
  have hn : n = zs.length := by
    rcases h.2 with ⟨h1, _⟩ | ⟨g', cap', cur, h1, _⟩
    · cases h1
    · cases h1; rfl
  subst hn
  have h1 := (World.ownsRow.stored h j (.int k (x : Int))).1
  unfold Own
  rw [List.length_set, List.map_set]
  exact h1

theorem Own.frozen {g n cap : Nat} (h : Own k e base w (.slice (some ⟨g, 0, none⟩) n cap) zs) (j : Nat) : w.frozen? ⟨g, j, none⟩ = false := by
  rcases h.2 with ⟨h1, _⟩ | ⟨g', cap', cur, h1, _, hg, _⟩
  · cases h1
  · cases h1; exact frozen_of_row w g j cur e hg

theorem Own.cell {g n cap : Nat} (h : Own k e base w (.slice (some ⟨g, 0, none⟩) n cap) zs) (i : Nat) (hi : i < zs.length) : w.cell? ⟨g, i, none⟩ = some (.int k (zs.getD i 0 : Nat)) := by
  obtain ⟨ao, cap', e1, _, _, hs, _⟩ := h.open
  cases e1
  obtain ⟨b, off, e2, hc⟩ := hs.open i hi
  cases e2
  simpa using hc i hi

theorem Own.shape (h : Own k e base w v zs) (hp : 0 < zs.length) : ∃ g cap, v = .slice (some ⟨g, 0, none⟩) zs.length cap ∧ base ≤ g ∧ g < w.heap.size := by
  rcases h.2 with ⟨rfl, hn⟩ | ⟨g, cap, cur, rfl, hbg, hg, _⟩
  · omega
  · exact ⟨g, cap, rfl, hbg, (Array.getElem?_eq_some_iff.1 hg).1⟩

theorem Own.drew (h : Own k e base w v zs) : Own k e base w.drew v zs := h
theorem Only.drew {g : Nat} (h : Only g w w') : Only g w w'.drew := ⟨h.os, h.tape, h.output, h.size, h.block⟩

theorem Own.empty {ao : Option Addr} {n cap : Nat} (h : Own k e base w (.slice ao n cap) zs) : Own k e base w (.slice ao 0 cap) [] := by
  cases ao with
  | none =>
    rcases h.2 with ⟨h1, _⟩ | ⟨g, cap', cur, h1, _⟩
    · cases h1; exact Own.nil _ _ _ _
    · cases h1
  | some a => exact (by simpa using h.take 0 (Nat.zero_le _) (by simp))
end

theorem getD_set (l : List Nat) (i a p : Nat) (hi : i < l.length) : (l.set i a).getD p 0 = if p = i then a else l.getD p 0 := by
  rw [List.getD_eq_getElem?_getD, List.getElem?_set]
  by_cases h : p = i
  · subst h; simp [hi]
  · rw [if_neg (fun e => h e.symm), if_neg h, List.getD_eq_getElem?_getD]

theorem ext_getD {a b : List Nat} (hl : a.length = b.length) (h : ∀ p, p < a.length → a.getD p 0 = b.getD p 0) : a = b := by
  apply List.ext_getElem hl
  intro i h1 h2
  have := h i h1
  rw [List.getD_eq_getElem?_getD, List.getD_eq_getElem?_getD, List.getElem?_eq_getElem h1, List.getElem?_eq_getElem h2] at this
  exact this

theorem getD_reverse (l : List Nat) (p : Nat) (hp : p < l.length) : l.reverse.getD p 0 = l.getD (l.length - 1 - p) 0 := by
  rw [List.getD_eq_getElem?_getD, List.getElem?_reverse hp, ← List.getD_eq_getElem?_getD]

/-- 'append(out, x)', out the call's own. -/
theorem wpList_append_num {P : Program} {W : World} {ops : Array Oper} {rest : List Oper} {o : Oper} {a : Act} {Q : Exit → Act → World → Prop} (hgd : o.guard = none) (s x : Operand) (t : TypeId)
    (ho : o.op = .call { callee := .builtin .append, args := #[s, x], argTypes := #[t, t] })
    (base : Nat) (e : TypeId) (k : IntKind) (bytes : Nat) (h1 : P.underlying t = some (.slice e)) (h2 : (P.info? e).map (fun i => (i.zero, i.size, i.bytes)) = some (some (.int k 0), 1, bytes)) (hby : bytes ≤ 64)
    (v : Value) (zs : List Nat) (hs : a.eval s = v) (hown : Own k e base W v zs) (X : Int) (y : Nat) (hX : X = (y : Int)) (hx : a.eval x = .slice (some ⟨W.heap.size, 0, none⟩) 1 1)
    (hlen : zs.length ≤ 100000) (hbase : base ≤ W.heap.size)
    (h : ∀ v' w', Own k e base w' v' (zs ++ [y]) → (∀ b, b < W.heap.size → v.ownBlock ≠ some b → w'.heap[b]? = W.heap[b]?) → Below base W w' → wpList P ops Q rest (a.put o.dst v') w') :
    wpList P ops Q (o :: rest) a (W.alloc (.cells #[.int k X] e (0, 0))) := by
  subst hX
  obtain ⟨i, hi, hz0, hz1, hz2⟩ := info_parts h2
  have hb : (zs.length + 1) * bytes ≤ 100001 * 64 := Nat.mul_le_mul (by omega) hby
  refine wpList_append_own (W.alloc (.cells #[.int k (y : Int)] e (0, 0))) hgd s x t ho base e i (.int k 0) 1 bytes h1 hi hz0 hz1 hz2 rfl (by decide) v zs.length _ hs (World.ownsRow.alloc hown _) ⟨W.heap.size, 0, none⟩ 1 1 [.int k (y : Int)] hx rfl ?_ ?_ ?_ ?_ ?_ ?_
  · intro j u hj
    match j, hj with
    | 0, hj => simp at hj; subst hj; simp [Addr.add]
  · intro u hu; simp at hu; subst hu; rfl
  · unfold maxLen; omega
  · omega
  · simp; omega
  · intro v' w' hown' hgrow _
    have hblk : ∀ b, b < W.heap.size → v.ownBlock ≠ some b → w'.heap[b]? = W.heap[b]? := by
      intro b hb1 hb2
      rw [hgrow.block b (by simp; omega) (fun e => hb2 e.symm), Below.heap_alloc W _ b hb1]
    refine h v' w' ?_ hblk ?_
    · unfold Own
      simpa using hown'
    · refine ⟨hgrow.os, hgrow.tape, hgrow.output, by have := hgrow.size; simp at this; omega, fun b hb1 => hblk b (by omega) (fun e => ?_)⟩
      have := (Own.lt hown b e).1
      omega

theorem Own.lit (w : World) (k : IntKind) (e : TypeId) (zs : List Nat) (base : Nat) (hb : base ≤ w.heap.size) (hl : zs.length ≤ 100000) :
    Own k e base (w.alloc (.cells (zs.map fun z => Value.int k ((z : Nat) : Int)).toArray e (0, 0))) (.slice (some ⟨w.heap.size, 0, none⟩) zs.length zs.length) zs := by
  have h := World.ownsRow_lit (base := base) (e := e) (size := 1) w (zs.map fun z => Value.int k ((z : Nat) : Int)).toArray zs.length hb (by unfold maxLen; omega) (by simp)
  simpa [Own] using h

/-- 'append(out, src...)', out the call's own, src numbers from wherever. -/
theorem wpList_append_seg {P : Program} {w : World} {ops : Array Oper} {rest : List Oper} {o : Oper} {a : Act} {Q : Exit → Act → World → Prop} (hgd : o.guard = none) (s x : Operand) (t : TypeId)
    (ho : o.op = .call { callee := .builtin .append, args := #[s, x], argTypes := #[t, t] })
    (base : Nat) (e : TypeId) (k : IntKind) (bytes : Nat) (h1 : P.underlying t = some (.slice e)) (h2 : (P.info? e).map (fun i => (i.zero, i.size, i.bytes)) = some (some (.int k 0), 1, bytes)) (hby : bytes ≤ 64)
    (v : Value) (zs : List Nat) (hs : a.eval s = v) (hown : Own k e base w v zs) (ao : Option Addr) (m c : Nat) (hx : a.eval x = .slice ao m c) (hnone : ao = none → c = 0 ∧ m = 0) (ys : List Nat) (hm : ys.length = m) (hseg : Seg k w ao ys)
    (hlen : zs.length + m ≤ 100000) (hbase : base ≤ w.heap.size)
    (h : ∀ v' w', Own k e base w' v' (zs ++ ys) → (∀ b, b < w.heap.size → v.ownBlock ≠ some b → w'.heap[b]? = w.heap[b]?) → Below base w w' → wpList P ops Q rest (a.put o.dst v') w') :
    wpList P ops Q (o :: rest) a w := by
  subst hm
  obtain ⟨i, hi, hz0, hz1, hz2⟩ := info_parts h2
  have hb : (zs.length + ys.length) * bytes ≤ 100000 * 64 := Nat.mul_le_mul (by omega) hby
  cases ao with
  | none =>
    obtain ⟨rfl, hm⟩ := hnone rfl
    obtain rfl : ys = [] := List.eq_nil_of_length_eq_zero hm
    refine wpList_append_own_none hgd s x t ho base e i 1 h1 hi v zs.length _ hs hown (by simpa using hx) ?_
    exact h v w (by simpa using hown) (fun b _ _ => rfl) (Below.refl _ _)
  | some ad =>
    refine wpList_append_own w hgd s x t ho base e i (.int k 0) 1 bytes h1 hi hz0 hz1 hz2 rfl (by decide) v zs.length _ hs hown ad ys.length c (ys.map fun z => Value.int k ((z : Nat) : Int)) hx (by simp) ?_ ?_ ?_ ?_ hbase ?_
    · intro j u hj
      have hjl : j < ys.length := by simpa using (List.getElem?_eq_some_iff.1 hj).1
      obtain ⟨b, off, e1, hc⟩ := hseg.open j hjl
      cases e1
      rw [Addr.add_lit, hc j hjl]
      simp only [List.getElem?_map, List.getElem?_eq_getElem hjl, Option.map_some, Option.some.injEq] at hj
      rw [← hj, List.getD_eq_getElem?_getD, List.getElem?_eq_getElem hjl]
      rfl
    · intro u hu
      obtain ⟨_, _, rfl⟩ := List.mem_map.1 hu
      rfl
    · unfold maxLen; omega
    · omega
    · intro v' w' hown' hgrow _
      have hblk : ∀ b, b < w.heap.size → v.ownBlock ≠ some b → w'.heap[b]? = w.heap[b]? := fun b hb1 hb2 => hgrow.block b hb1 (fun e => hb2 e.symm)
      refine h v' w' ?_ hblk ?_
      · unfold Own
        simpa using hown'
      · refine ⟨hgrow.os, hgrow.tape, hgrow.output, hgrow.size, fun b hb1 => hblk b (by omega) (fun e => ?_)⟩
        have := (Own.lt hown b e).1
        omega
end Go.Proofs.Ytidpbdhhbeaijab
