/- arith's calls, with the result's number under a name; they prove no statement of the seat. -/
import Derived.Test.YtidpbdhhbeaijabJoin9
namespace Go.Proofs.Ytidpbdhhbeaijab
open Go.RowKit

theorem add_z (va vb : Value) (x y z : Int) (w : World) (ha : AInt w va x) (hb : AInt w vb y) (hz' : x + y = z) :
    Calls Try.prog 23 #[va, vb] w fun e w' => ∃ s a n c, e = .returned (.tuple #[.agg #[.bool s, .slice a n c], .int .i64 (ec z)]) ∧ AInt w' (.agg #[.bool s, .slice a n c]) (hz z) ∧ Below w.heap.size w w' := by
  subst hz'; exact add_h va vb x y w ha hb
theorem mul_z (va vb : Value) (x y z : Int) (w : World) (ha : AInt w va x) (hb : AInt w vb y) (hz' : x * y = z) :
    Calls Try.prog 35 #[va, vb] w fun e w' => ∃ s a n c, e = .returned (.tuple #[.agg #[.bool s, .slice a n c], .int .i64 (ec z)]) ∧ AInt w' (.agg #[.bool s, .slice a n c]) (hz z) ∧ Below w.heap.size w w' := by
  subst hz'; exact mul_h va vb x y w ha hb
end Go.Proofs.Ytidpbdhhbeaijab
