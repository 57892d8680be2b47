/- Contract of arith.Sum; it proves no statement of the seat. -/
import Derived.Test.YteefniagebcagaaGreatDoorJoin10Holds
namespace Go.Proofs.YteefniagebcagaaGreatDoor
open Go.RowKit

/-- A list's sum, from z on: none where a sum on the way is too large. -/
def sums : Int → List Int → Option Int
  | z, [] => some z
  | z, x :: r => if (z + x).natAbs < lim then sums (z + x) r else none
def sumZ (zs : List Int) : Int := (sums 0 zs).getD 0
def sumE (zs : List Int) : Int := if (sums 0 zs).isSome then 0 else 11

/-- The cells from 'ao' on are numbers' structs. -/
def Arr (w : World) (ao : Option Addr) (zs : List Int) : Prop :=
  zs = [] ∨ ∃ g o, ao = some ⟨g, o, none⟩ ∧ ∀ i, i < zs.length → ∃ s a n c, w.cell? ⟨g, o + i * 2, none⟩ = some (.bool s) ∧ w.cell? ⟨g, o + i * 2 + 1, none⟩ = some (.slice a n c) ∧ AInt w (.agg #[.bool s, .slice a n c]) (zs.getD i 0)
theorem Arr.below {w w' : World} {ao : Option Addr} {zs : List Int} (h : Arr w ao zs) (hb : Below w.heap.size w w') : Arr w' ao zs := by
  rcases h with h | ⟨g, o, rfl, hc⟩
  · exact Or.inl h
  · refine Or.inr ⟨g, o, rfl, fun i hi => ?_⟩
    obtain ⟨s, a, n, c, h1, h2, h3⟩ := hc i hi
    exact ⟨s, a, n, c, (hb.cell (p := ⟨g, o + i * 2, none⟩) (World.block_lt_of_cell? w _ h1)).trans h1, (hb.cell (p := ⟨g, o + i * 2 + 1, none⟩) (World.block_lt_of_cell? w _ h2)).trans h2, h3.below hb⟩
theorem Arr.at {w : World} {ao : Option Addr} {zs : List Int} (h : Arr w ao zs) (i : Nat) (hi : i < zs.length) : ∃ g o, ao = some ⟨g, o, none⟩ := by
  rcases h with h | ⟨g, o, rfl, hc⟩
  · subst h; simp at hi
  · exact ⟨g, o, rfl⟩

theorem sums_step {zs : List Int} {k : Nat} (hk : k < zs.length) (p : Int) : sums p (zs.drop k) = if (p + zs.getD k 0).natAbs < lim then sums (p + zs.getD k 0) (zs.drop (k + 1)) else none := by
  rw [List.drop_eq_getElem_cons hk, sums, List.getD_eq_getElem?_getD, List.getElem?_eq_getElem hk]
  rfl

end Go.Proofs.YteefniagebcagaaGreatDoor
