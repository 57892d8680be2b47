/- The walk of EufGrows; no statement of the seat is proved here. -/
import Derived.Test.YtmnpefiaelpkfacEufGaJClasses
import Derived.Test.YtmnpefiaelpkfacEufWaJClasses
namespace Go.Proofs.Ytmnpefiaelpkfac
open Go.RowKit
set_option linter.unusedVariables false
namespace Euf
theorem OpOk.below {w w' : World} {o : OpS} {aZ : Option Addr} {cZ : Nat} (h : OpOk w o aZ cZ) (hb : Below w.heap.size w w') : OpOk w' o aZ cZ := { h with zs := h.zs.below hb, blk := (by intros; exact Nat.lt_of_lt_of_le (by first | exact h.blk _ _ (by assumption) | exact h.blk (by assumption) _ _ (by assumption)) hb.size) }
theorem Scr.below {w w' : World} {aS : Option Addr} {ops : List OpS} (h : Scr w aS ops) (hb : Below w.heap.size w w') : Scr w' aS ops := by
  refine ⟨fun i hi => ?_⟩
  obtain ⟨b, off, aZ, cZ, e, hlt, m0, m1, m2, m3, m4, hok⟩ := h.at_ i hi
  exact ⟨b, off, aZ, cZ, e, Nat.lt_of_lt_of_le hlt hb.size, (hb.cell (p := ⟨b, off + i * 5, none⟩) hlt).trans m0, (hb.cell (p := ⟨b, off + i * 5 + 1, none⟩) hlt).trans m1, (hb.cell (p := ⟨b, off + i * 5 + 2, none⟩) hlt).trans m2, (hb.cell (p := ⟨b, off + i * 5 + 3, none⟩) hlt).trans m3, (hb.cell (p := ⟨b, off + i * 5 + 4, none⟩) hlt).trans m4, fun h20 => (hok h20).below hb⟩
end Euf
end Go.Proofs.Ytmnpefiaelpkfac
