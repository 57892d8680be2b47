/- Words for regions by the law of Reg4; they prove no statement of the seat. -/
import Derived.Test.YteefniagebcagaaGreatDoorReg4JTells
import Derived.Test.YteefniagebcagaaGreatDoorJoin26Tells
namespace Go.Proofs.YteefniagebcagaaGreatDoor
open Go.RowKit
set_option linter.unusedVariables false
theorem Frm.is {a : Act} {sls : List Nat} {U : Nat → Value} {A : Act} (h : Frm a sls U A) (i : Nat) (hi : i < sls.length) {v : Value} (hv : U (sls.getD i 0) = v) : A.tmps[sls.getD i 0]? = some v := by rw [h.got i hi, hv]
def MonoL (ps : List (Value → World → Prop)) : Prop := ∀ p ∈ ps, ∀ (u : Value) (w w' : World), Below w.heap.size w w' → p u w → p u w'
theorem MonoL.nil : MonoL [] := fun _ h => by cases h
theorem MonoL.cons {p : Value → World → Prop} {ps : List (Value → World → Prop)} (h : MonoB p) (hs : MonoL ps) : MonoL (p :: ps) := by
  intro q hq u w w' hb hp
  rcases List.mem_cons.1 hq with rfl | hq
  · exact h u w w' ⟨hb⟩ hp
  · exact hs q hq u w w' hb hp
end Go.Proofs.YteefniagebcagaaGreatDoor
