/- Contract of suretyref01.Sum; it proves no statement of the seat. -/
import Derived.Test.YteefniagebcagabGreatDoorJoin19AtMost
import Derived.Test.YteefniagebcagabGreatDoorRAddJAtMost
import Derived.Test.YteefniagebcagabGreatDoorRPowJAtMost
namespace Go.Proofs.YteefniagebcagabGreatDoor
open Go.RowKit

/-- The cells from 'ao' on are suretyref01.Nums. -/
def ArrR (w : World) (ao : Option Addr) (zs : List Int) : Prop :=
  zs = [] ∨ ∃ g o, ao = some ⟨g, o, none⟩ ∧ ∀ i, i < zs.length → ∃ s a n c, w.cell? ⟨g, o + i * 2, none⟩ = some (.bool s) ∧ w.cell? ⟨g, o + i * 2 + 1, none⟩ = some (.slice a n c) ∧ RNum w (.agg #[.bool s, .slice a n c]) (zs.getD i 0) 400
theorem ArrR.below {w w' : World} {ao : Option Addr} {zs : List Int} (h : ArrR w ao zs) (hb : Below w.heap.size w w') : ArrR w' ao zs := by
  rcases h with h | ⟨g, o, rfl, hc⟩
  · exact Or.inl h
  · refine Or.inr ⟨g, o, rfl, fun i hi => ?_⟩
    obtain ⟨s, a, n, c, h1, h2, h3⟩ := hc i hi
    exact ⟨s, a, n, c, (hb.cell (p := ⟨g, o + i * 2, none⟩) (World.block_lt_of_cell? w _ h1)).trans h1, (hb.cell (p := ⟨g, o + i * 2 + 1, none⟩) (World.block_lt_of_cell? w _ h2)).trans h2, h3.below hb⟩
theorem ArrR.at {w : World} {ao : Option Addr} {zs : List Int} (h : ArrR w ao zs) (i : Nat) (hi : i < zs.length) : ∃ g o, ao = some ⟨g, o, none⟩ := by
  rcases h with h | ⟨g, o, rfl, hc⟩
  · subst h; simp at hi
  · exact ⟨g, o, rfl⟩

end Go.Proofs.YteefniagebcagabGreatDoor
