/- Contract of arith.Pow; it proves no statement of the seat. -/
import Derived.Test.YteefniagebcagabGreatDoorJoin12Tights
namespace Go.Proofs.YteefniagebcagabGreatDoor
open Go.RowKit

theorem pow_more {x : Int} {m n : Nat} (h : m ≤ n) (hl : ¬ (x ^ m).natAbs < lim) : ¬ (x ^ n).natAbs < lim := by
  rw [Int.natAbs_pow] at hl ⊢
  have h1 := lim_pos
  rcases Nat.eq_zero_or_pos x.natAbs with h0 | h0
  · exfalso
    apply hl
    rw [h0]
    rcases Nat.eq_zero_or_pos m with hm | hm
    · rw [hm, Nat.pow_zero]; have := word_lim; omega
    · rw [Nat.zero_pow hm]; exact h1
  · have := Nat.pow_le_pow_right h0 h
    omega

theorem ec_ne {z : Int} (h : ¬ ec z = 0) : ¬ z.natAbs < lim := fun k => h (ec_of k)
theorem hz_ne {z : Int} (h : ¬ z.natAbs < lim) : hz z = 0 := if_neg h

theorem AInt.zeroed {w : World} {z : Int} (h : ¬ z.natAbs < lim) : AInt w (.agg #[.bool false, .slice none 0 0]) (hz z) := by rw [hz_ne h]; exact AInt.zero w

end Go.Proofs.YteefniagebcagabGreatDoor
