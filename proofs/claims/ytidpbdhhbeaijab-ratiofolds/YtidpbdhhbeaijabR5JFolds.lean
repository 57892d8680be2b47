/- Contract of suretyref02.Sum; it proves no statement of the seat. -/
import Derived.Test.YtidpbdhhbeaijabR3JFolds
import Derived.Test.YtidpbdhhbeaijabJoin14Folds
namespace Go.Proofs.Ytidpbdhhbeaijab
open Go.RowKit
/-- The cells from 'ao' on are the document's rationals. -/
def ArrQR (w : World) (ao : Option Addr) (zs : List Rat) : Prop :=
  zs = [] ∨ ∃ g o, ao = some ⟨g, o, none⟩ ∧ ∀ k, k < zs.length → ∃ xX aX nX cX yX eX mX fX, (w.cell? ⟨g, o + k * 4, none⟩ = some (.bool xX) ∧ w.cell? ⟨g, o + k * 4 + 1, none⟩ = some (.slice aX nX cX) ∧ w.cell? ⟨g, o + k * 4 + 2, none⟩ = some (.bool yX) ∧ w.cell? ⟨g, o + k * 4 + 3, none⟩ = some (.slice eX mX fX)) ∧ QRP w xX aX nX cX yX eX mX fX (zs.getD k 0) 400

end Go.Proofs.Ytidpbdhhbeaijab

