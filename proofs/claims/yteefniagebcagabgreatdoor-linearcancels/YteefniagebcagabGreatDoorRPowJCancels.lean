/- Contracts of suretyref01's TooBig, Held and Pow by the numbers; they prove no statement of the seat. -/
import Derived.Test.YteefniagebcagabGreatDoorRMulJCancels
import Derived.Test.YteefniagebcagabGreatDoorRFromJCancels
import Derived.Test.YteefniagebcagabGreatDoorPowJCancels
namespace Go.Proofs.YteefniagebcagabGreatDoor
open Go.RowKit

theorem RNum.short {w : World} {v : Value} {z : Int} {L : Nat} (h : RNum w v z L) (hz : z.natAbs < lim) : RNum w v z 400 := by
  obtain ⟨neg, ds, h1, h2, h3⟩ := h
  refine ⟨neg, ds, h1, h2, ?_⟩
  obtain ⟨_, _, _, _, _, _, _, hd, hn, _⟩ := h1
  rw [h2, sv_natAbs] at hz
  rcases Nat.lt_or_ge 309 ds.length with k | k
  · have := toobig_long hn k; omega
  · omega

theorem toobig_r (v : Value) (z : Int) (L : Nat) (b : Bool) (w : World) (hv : RNum w v z L) (hL : L ≤ 10000) (hb : decide (lim ≤ z.natAbs) = b) :
    Calls Tryz.prog 65 #[v] w fun e w' => e = .returned (.bool b) ∧ Below w.heap.size w w' := by
  subst hb
  obtain ⟨neg, ds, h1, h2, h3⟩ := hv
  rw [h2, sv_natAbs]
  exact toobig_any v neg ds w h1 (by omega)

/-- The variables that suretyref01.Pow works on. -/
def PowS (w wr : World) (b : Nat) (xx : Bool) (ax : Option Addr) (nx cx : Nat) (x : Int) (s : Bool) (a : Option Addr) (m c : Nat) (p : Int) : Prop :=
  Blk 74 wr w.heap.size #[.bool xx, .slice ax nx cx] ∧ Blk 74 wr (w.heap.size + 1) #[.bool false, .slice none 0 0] ∧ Blk 74 wr b #[.bool s, .slice a m c] ∧
    RNum wr (.agg #[.bool xx, .slice ax nx cx]) x 400 ∧ RNum wr (.agg #[.bool s, .slice a m c]) p 400 ∧ Below w.heap.size w wr

theorem pow_small {x : Int} (h : x.natAbs ≤ 1) (n : Nat) (hc : n = 0 ∨ (x < 0 ∧ n % 2 = 0)) : x ^ n = 1 := by
  rcases hc with rfl | ⟨h1, h2⟩
  · exact Int.pow_zero _
  · have e : x = -1 := by omega
    obtain ⟨k, rfl⟩ : ∃ k, n = 2 * k := ⟨n / 2, by omega⟩
    rw [e, Int.pow_mul, show ((-1 : Int)) ^ 2 = 1 from rfl, Int.one_pow]
theorem pow_small' {x : Int} (h : x.natAbs ≤ 1) (n : Nat) (h0 : n ≠ 0) (hc : ¬ (x < 0 ∧ n % 2 = 0)) : x ^ n = x := by
  obtain ⟨m, rfl⟩ : ∃ m, n = m + 1 := ⟨n - 1, by omega⟩
  have e : x = 0 ∨ x = 1 ∨ x = -1 := by omega
  rcases e with rfl | rfl | rfl
  · exact Int.zero_pow (by omega)
  · exact Int.one_pow
  · obtain ⟨k, rfl⟩ : ∃ k, m = 2 * k := ⟨m / 2, by omega⟩
    rw [Int.pow_succ, Int.pow_mul, show ((-1 : Int)) ^ 2 = 1 from rfl, Int.one_pow]; rfl
end Go.Proofs.YteefniagebcagabGreatDoor
