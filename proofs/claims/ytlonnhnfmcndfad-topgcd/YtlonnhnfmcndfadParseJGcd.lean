/- Contracts of arith.readDigits, fitting, Parse; they prove no statement of the seat. -/
import Derived.Test.YtlonnhnfmcndfadText1JGcd
namespace Go.Proofs.Ytlonnhnfmcndfad
open Go.RowKit

theorem trimZ_seg {k : IntKind} {t : TypeId} {w : World} {g : Nat} {zs : List Nat} (h : Row k t w g zs) : Seg k w (some ⟨g, 0, none⟩) (trimZ zs) := by
  have := h.first (trimZ zs).length (trimZ_length_le zs)
  rwa [← trimZ_take] at this

end Go.Proofs.Ytlonnhnfmcndfad
