/- Contracts of Len, Equations and Find, and of the calls that are refused; they prove no statement of the seat. -/
import Derived.Test.YtmnpefiaelpkfacJoin7Classes
import Derived.Test.YtmnpefiaelpkfacJoin8Classes
import Derived.Test.YtmnpefiaelpkfacEufXpJClasses
import Derived.Test.YtmnpefiaelpkfacJoin2Classes
namespace Go.Proofs.Ytmnpefiaelpkfac
open Go.RowKit
set_option linter.unusedVariables false
namespace Euf

set_option maxHeartbeats 4000000 in
theorem Len_any (g : Nat) (d : Gd) (w : World) (h : GW w g d) (hnn : d.t.nn ≤ 10000) :
    Calls Try.prog 13 #[.pointer (some ⟨g, 0, none⟩)] w fun e w' => e = .returned (.int .i64 (d.t.nn : Nat)) ∧ Below w.heap.size w w' := by
  obtain ⟨c0, -, -, -, -, -, -, -, -, -⟩ := h.cw.cells
  obtain ⟨an, cn, hvn, -, -, -, -⟩ := h.nodes.shape
  rw [hvn] at c0
  have hgl := h.cw.lt
  clear h hvn
  go_enter Try.func13, Try.ntmps13
  go_wp2
  go_ret
  exact ⟨rfl, Below.refl _ _⟩
set_option maxHeartbeats 4000000 in
theorem Equations_any (g : Nat) (d : Gd) (w : World) (h : GW w g d) :
    Calls Try.prog 14 #[.pointer (some ⟨g, 0, none⟩)] w fun e w' => e = .returned (.int .i64 (d.f.ne : Nat)) ∧ Below w.heap.size w w' := by
  obtain ⟨-, c1, -, -, -, -, -, -, -, -⟩ := h.cw.cells
  obtain ⟨an, cn, hvn, -, -, -, -⟩ := h.cw.eqs.shape
  rw [hvn] at c1
  have hgl := h.cw.lt
  clear h hvn
  go_enter Try.func14, Try.ntmps14
  go_wp2
  go_ret
  exact ⟨rfl, Below.refl _ _⟩
/-- One int that lies by itself. -/
theorem ai_one {w : World} {b : Nat} {x : Int} (h : w.heap[b]? = some (.cells #[.int .i64 x] 3 (0, 0))) (cap : Nat) : AI w (.slice (some ⟨b, 0, none⟩) 1 cap) [x] := by
  refine ⟨_, cap, rfl, by simp, Or.inr ⟨b, 0, rfl, (Array.getElem?_eq_some_iff.1 h).1, fun i hi => ?_⟩⟩
  simp only [List.length_cons, List.length_nil] at hi
  obtain rfl : i = 0 := by omega
  exact cell_of_row _ b 0 _ 3 (0, 0) h

end Euf
end Go.Proofs.Ytmnpefiaelpkfac
