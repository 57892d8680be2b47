/- Words for regions that only read: all that lay there stays; they prove no statement of the seat. -/
import Derived.Test.YteefniagebcagaaGreatDoorJoin24Reckons
import Derived.Test.YteefniagebcagaaGreatDoorJoin25Reckons
import Derived.Test.YteefniagebcagaaGreatDoorLinSmJReckons
namespace Go.Proofs.YteefniagebcagaaGreatDoor
open Go.RowKit
set_option linter.unusedVariables false
structure KeepB (w w' : World) : Prop where
  b : Below w.heap.size w w'
theorem KeepB.below {w w' : World} (h : Below w.heap.size w w') : KeepB w w' := ⟨h⟩
theorem KeepB.trans {a b c : World} (h : KeepB a b) (k : KeepB b c) : KeepB a c := ⟨h.b.step k.b (Nat.le_refl _)⟩
theorem KeepB.p {w w' : World} (h : KeepB w w') : KeepP w w' := KeepP.below h.b
def MonoB (p : Value → World → Prop) : Prop := ∀ u w w', KeepB w w' → p u w → p u w'
theorem MonoP.b {p : Value → World → Prop} (h : MonoP p) : MonoB p := fun u w w' hk => h u w w' hk.p
theorem mb_is {v : Value} : MonoB (IS v) := mp_is.b
theorem mb_rnm {z : Int} {N : Nat} : MonoB (RNM z N) := mp_rnm.b
theorem mb_trm {ps : List (Nat × Int)} {r : Int} : MonoB (TRM ps r) := mp_trm.b
theorem mb_t2 {p q : Value → World → Prop} (hp : MonoB p) (hq : MonoB q) : MonoB (T2 p q) := fun _ w w' hk h => by
  obtain ⟨a, b, h1, h2, h3⟩ := h
  exact ⟨a, b, h1, hp _ _ _ hk h2, hq _ _ _ hk h3⟩
theorem mvB {p : Value → World → Prop} (hp : MonoB p) {w w' : World} (hk : KeepB w w') {b : Prop} {u : Value} (h : b → p u w) : b → p u w' := fun k => hp _ _ _ hk (h k)
end Go.Proofs.YteefniagebcagaaGreatDoor
