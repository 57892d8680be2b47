/- What comes in is opened: lists of numbers, lists of lists, chains; it proves no statement of the seat. -/
import Derived.Test.YtbmkkhpoaicclabGreatSatLlJPauses
import Derived.Test.YtbmkkhpoaicclabGreatSatCkJPauses
import Derived.ChangeArms
import Derived.ChangeSlices
namespace Go.Proofs.YtbmkkhpoaicclabGreat
open Go Go.ChangeShapes Go.WideShapes Go.ChangeAt Go.RowKit
set_option linter.unusedVariables false
namespace Sat
theorem wf_in {z:Int} (h:(Lit.int .i64 z).wf=true):InI z:=by
 have h9:(decide (IntKind.min .i64≤z) && decide (z≤IntKind.max .i64))=true:=h;simp only [Bool.and_eq_true,decide_eq_true_eq] at h9;have e1:IntKind.min .i64=-9223372036854775808:=by decide
 have e2:IntKind.max .i64=9223372036854775807:=by decide
 unfold InI;rw [e1,e2] at h9;omega
section
variable {H:Type} {enc:TypeId × Value→H} {w:World} {base:Nat} {sp:Nat→Bool} {held:Bool}
end
end Sat
end Go.Proofs.YtbmkkhpoaicclabGreat
