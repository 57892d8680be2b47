/- A second graph beside the first, and the document's lists; no statement of the seat is proved here. -/
import Derived.Test.YtlonnhnfmcndfacEufGrJTrue
namespace Go.Proofs.Ytlonnhnfmcndfac
open Go.RowKit
set_option linter.unusedVariables false
namespace Euf
/-- What is in a played script was in the script. -/
theorem playK_mem (ops : List OpS) : ∀ (k : Nat) (x : ByteArray × List Nat), x ∈ (playK ops k).1 → ∃ i, (ops.getD i noOp).zs.length ≤ 20 ∧ x.1 = (ops.getD i noOp).fn
  | 0, x, h => by cases h
  | k + 1, x, h => by
    unfold playK at h
    split at h
    · rename_i h20
      generalize ho : ops.getD k noOp = o at h h20
      unfold stepA at h
      have ih := playK_mem ops k x
      split at h
      · split at h
        · split at h
          · exact ih h
          · simp only [List.mem_append, List.mem_singleton] at h
            rcases h with h | h
            · exact ih h
            · exact ⟨k, by rw [ho]; exact h20, by rw [ho, h]⟩
        · exact ih h
      · split at h
        · split at h
          · exact ih h
          · exact ih h
        · split at h
          · split at h
            · exact ih h
            · exact ih h
          · exact ih h
    · exact playK_mem ops k x h
section
variable {w0 wr w' : World} {g : Nat} {d d' : Gd} {q : Nat} {dh dh' d0 : Gd} {vN vE : Value} {rg : Nat → Value} {bW : Nat}
end
end Euf
end Go.Proofs.Ytlonnhnfmcndfac
