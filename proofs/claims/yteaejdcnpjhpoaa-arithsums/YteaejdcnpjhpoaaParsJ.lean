/- Both Parses at one text: the same code, the same number; it proves no statement of the seat. -/
import Derived.Test.YteaejdcnpjhpoaaRParseJ
namespace Go.Proofs.Yteaejdcnpjhpoaa
open Go.RowKit

/-- Both Parses at one text: the same code, the same number. -/
theorem parses_same {w w' : World} {v v' : Value} {c c' : Int} {l : List Nat} (h : ParseR w v c (pneg l) (pbody l)) (k : RParseR w' v' c' l) :
    c = c' ∧ ∃ z, AInt w v z ∧ RNum w' v' z 400 ∧ (c = 0 → Good l ∧ z = pval l) := by
  rcases h with ⟨h1, h2, h3⟩ | ⟨h1, h2⟩
  · rcases k with ⟨k1, k2, k3⟩ | ⟨k1, _⟩
    · exact ⟨by rw [h2, k2], 0, h3, k3, fun e => by rw [h2] at e; cases e⟩
    · exact absurd k1 h1
  · rcases k with ⟨k1, _⟩ | ⟨k1, k2⟩
    · exact absurd h1 k1
    · rcases h2 with ⟨a1, a2, a3⟩ | ⟨a1, a2, a3⟩
      · rcases k2 with ⟨b1, b2, b3⟩ | ⟨b1, b2, b3⟩
        · exact ⟨by rw [a1, b1], pval l, a3, b3, fun _ => ⟨k1, rfl⟩⟩
        · exact absurd b2 (Nat.not_le_of_lt a2)
      · rcases k2 with ⟨b1, b2, b3⟩ | ⟨b1, b2, b3⟩
        · exact absurd a2 (Nat.not_le_of_lt b2)
        · exact ⟨by rw [a1, b1], 0, a3, b3, fun e => by rw [a1] at e; cases e⟩
end Go.Proofs.Yteaejdcnpjhpoaa
