/- suretyref01.Show by its number's value; it proves no statement of the seat. -/
import Derived.Test.YteefniagebcagaaGreatDoorJoin9Values
import Derived.Test.YteefniagebcagaaGreatDoorRShowJValues
namespace Go.Proofs.YteefniagebcagaaGreatDoor
open Go.RowKit

theorem keep2 {t t' : TypeId} {W0 w' : World} {b1 b2 : Nat} {p1 q1 p2 q2 : Value} (h1 : Blk t W0 b1 #[p1, q1]) (h2 : Blk t' W0 b2 #[p2, q2]) (h : Below W0.heap.size W0 w') :
    Below W0.heap.size W0 w' ∧ w'.cell? ⟨b1, 0, none⟩ = some p1 ∧ w'.cell? ⟨b1, 1, none⟩ = some q1 ∧ w'.cell? ⟨b2, 0, none⟩ = some p2 ∧ w'.cell? ⟨b2, 1, none⟩ = some q2 :=
  ⟨h, (h1.stay h).two.1, (h1.stay h).two.2.1, (h2.stay h).two.1, (h2.stay h).two.2.1⟩

theorem show_a (v : Value) (z : Int) (L : Nat) (w : World) (hv : RNum w v z L) (hL : L ≤ 20000) :
    Calls Tryz.prog 32 #[v] w fun e w' => ∃ S, e = .returned (.string S) ∧ TextOf S z ∧ Below w.heap.size w w' := by
  obtain ⟨neg, ds, h1, h2, h3⟩ := hv
  rw [h2]
  exact show_any v neg ds w h1 (by omega)

theorem text_two {S T : ByteArray} {z : Int} (h : TextOf S z) (k : TextOf T z) : (S.toList == T.toList) = true := by rw [h.same k]; simp

end Go.Proofs.YteefniagebcagaaGreatDoor
