/- Contracts of arith.fitting, Parse; they prove no statement of the seat. -/
import Derived.Test.YtlonnhnfmcndfadParseJGcd
namespace Go.Proofs.Ytlonnhnfmcndfad
open Go.RowKit

theorem AInt.shape {w : World} {v : Value} {z : Int} (h : AInt w v z) : ∃ x a n c, v = .agg #[.bool x, .slice a n c] := by
  obtain ⟨neg, xs, ⟨ao, cap, h, _⟩, _⟩ := h
  exact ⟨neg, ao, xs.length, cap, h⟩
end Go.Proofs.Ytlonnhnfmcndfad
