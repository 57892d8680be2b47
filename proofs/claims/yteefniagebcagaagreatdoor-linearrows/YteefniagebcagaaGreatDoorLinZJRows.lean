/- Plain facts on sums and rows: values go through sums, tight rows, texts that are read again; no statement of the seat is proved here. -/
import Derived.Test.YteefniagebcagaaGreatDoorLinHoJRows
import Derived.Test.YteefniagebcagaaGreatDoorJoin25Rows
namespace Go.Proofs.YteefniagebcagaaGreatDoor
set_option linter.unusedVariables false

theorem neg_fits (a : List (Nat × Int)) : addFits a (mulP a (-1)) := by
  intro v
  rw [mulP_coef]
  have := word_lim
  have e : coef a v + coef a v * -1 = 0 := by omega
  rw [e]; simp; omega
theorem neg_gone {a : List (Nat × Int)} (h : Fine a) : addP a (mulP a (-1)) = [] := by
  refine fine_eq (addP_fine h (negP_fine h) (neg_fits a)) Fine.nil (fun v => ?_)
  rw [addP_coef _ _ h.1 (mulP_rise h.1 _), mulP_coef]
  show _ = 0
  omega
end Go.Proofs.YteefniagebcagaaGreatDoor
