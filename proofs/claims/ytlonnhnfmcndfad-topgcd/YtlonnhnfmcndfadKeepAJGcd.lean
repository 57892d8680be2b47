/- Contracts of arith's calls at small numbers; they prove no statement of the seat. -/
import Derived.Test.YtlonnhnfmcndfadGcd1JGcd
namespace Go.Proofs.Ytlonnhnfmcndfad
open Go.RowKit

theorem text_a0 (v : Value) (z : Int) (w : World) (hv : AInt w v z) :
    Calls Try.prog 18 #[v] w fun e w' => ∃ S, e = .returned (.string S) ∧ TextOf S z ∧ Below w.heap.size w w' := by
  obtain ⟨neg, xs, h1, h2, h3⟩ := hv
  rw [h2]
  exact text_any v neg xs w h1 (by have := AInt.len h1 h3; omega)

theorem div_one0 (va vb : Value) (x y : Int) (w : World) (ha : AInt w va x) (hb : AInt w vb y) (hy0 : y ≠ 0) (hy : y.natAbs < 4294967296) :
    Calls Try.prog 20 #[va, vb] w fun e w' => ∃ vq vr, e = .returned (.tuple #[vq, vr, .int .i64 0]) ∧ AInt w' vq (x.fdiv y) ∧ AInt w' vr (x.fmod y) ∧ Below w.heap.size w w' := by
  obtain ⟨na, xs, hva, hx, hxl⟩ := ha
  obtain ⟨nb, ys, hvb, hye, hyl⟩ := hb
  have l1 := AInt.len hva hxl
  have l2 := AInt.len hvb hyl
  have e1 : y.natAbs = val 4294967296 ys := by rw [hye, sv_natAbs]
  have hva' := hva
  have hvb' := hvb
  obtain ⟨_, _, _, _, _, _, dx, nx, _⟩ := hva'
  obtain ⟨_, _, _, _, _, _, dy, ny, _⟩ := hvb'
  have p0 : 0 < ys.length := by
    rcases Nat.eq_zero_or_pos ys.length with h | h
    · rw [List.eq_nil_of_length_eq_zero h, val_nil] at e1; omega
    · exact h
  have p1 : ys.length = 1 := by
    rcases Nat.lt_or_ge 1 ys.length with h | h
    · have h1 := ny.ge (B := 4294967296) (List.ne_nil_of_length_pos p0) (by decide)
      have h2 : 4294967296 ^ 1 ≤ 4294967296 ^ (ys.length - 1) := Nat.pow_le_pow_right (by decide) (by omega)
      omega
    · omega
  rw [hx, hye]
  refine div_of va vb na nb xs ys w hva hvb hxl hyl p0 ?_
  rcases Nat.lt_or_ge (val 4294967296 xs) (val 4294967296 ys) with h | h
  · exact divLimbs_less xs ys (by omega) (by omega) dx dy nx ny h
  · exact divLimbs_one xs ys (by omega) p1 dx dy nx ny h

theorem gcd_a0 (va vb : Value) (x y : Int) (w : World) (ha : AInt w va x) (hb : AInt w vb y) (hx : x.natAbs < 18446744073709551616) (hy : y.natAbs < 18446744073709551616) :
    Calls Try.prog 19 #[va, vb] w fun e w' => ∃ v, e = .returned v ∧ AInt w' v (Nat.gcd x.natAbs y.natAbs) ∧ Below w.heap.size w w' := by
  obtain ⟨na, xs, hva, hxe, hxl⟩ := ha
  obtain ⟨nb, ys, hvb, hye, hyl⟩ := hb
  have len2 : ∀ zs : List Nat, Norm zs → val 4294967296 zs < 18446744073709551616 → zs.length ≤ 2 := by
    intro zs hn hv
    rcases Nat.lt_or_ge 2 zs.length with h | h
    · have h1 := hn.ge (B := 4294967296) (List.ne_nil_of_length_pos (by omega)) (by decide)
      have h2 : 4294967296 ^ 2 ≤ 4294967296 ^ (zs.length - 1) := Nat.pow_le_pow_right (by decide) (by omega)
      omega
    · exact h
  have hva' := hva
  have hvb' := hvb
  obtain ⟨_, _, _, _, _, _, dx, nx, _⟩ := hva'
  obtain ⟨_, _, _, _, _, _, dy, ny, _⟩ := hvb'
  rw [hxe, hye, sv_natAbs, sv_natAbs]
  rw [hxe, sv_natAbs] at hx
  rw [hye, sv_natAbs] at hy
  exact gcd_small va vb na nb xs ys w hva hvb (len2 xs nx hx) (len2 ys ny hy)

end Go.Proofs.Ytlonnhnfmcndfad
