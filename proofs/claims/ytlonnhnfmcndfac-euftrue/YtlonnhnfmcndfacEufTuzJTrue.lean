/- The walk of EufTrue, whole; no statement of the seat is proved here. -/
import Derived.Test.YtlonnhnfmcndfacEufTrJTrue
import Derived.Test.YtlonnhnfmcndfacEufPlJTrue
import Derived.Test.YtlonnhnfmcndfacEufOzJTrue
namespace Go.Proofs.Ytlonnhnfmcndfac
open Go Go.ChangeShapes Go.WideShapes Go.ChangeAt Go.RowKit
theorem eufTrue_any (aS : Option Addr) (cS : Nat) (ops : List Euf.OpS) (aD : Option Addr) (cD : Nat) (sd : List Int) (w : World) (hS : Euf.Scr w aS ops) (hl : ops.length ≤ maxLen) (hD : Euf.SegZ w aD sd) (hdl : sd.length ≤ maxLen) (hfn : ∀ i, (ops.getD i Euf.noOp).fn.size ≤ 140737488351232) :
    Calls Try.prog 7 #[.slice aS ops.length cS, .slice aD sd.length cD] w fun e w' => e = .returned (.bool true) ∧ Below w.heap.size w w' :=
  Euf.eufTrue_by Euf.played_any aS cS ops aD cD sd w hS hl hD hdl hfn
namespace Euf
/-- A list of ints as it came in. -/
theorem open_seed {H : Type} {enc : TypeId × Value → H} {w : World} {base : Nat} {sp : Nat → Bool} {held : Bool} {fuel : Nat} {c : Value} {x : DataW H × List MemPlace} (h : DataW.trod enc Try.prog w base sp held fuel 31 [c] = some x) : ∃ (aZ : Option Addr) (cZ : Nat) (zs : List Int), c = .slice aZ zs.length cZ ∧ SegZ w aZ zs ∧ zs.length ≤ maxLen := by
  obtain ⟨aZ, cZ, zs, e, -, hz⟩ := open_args h
  refine ⟨aZ, cZ, zs, e, hz, ?_⟩
  rcases open_ints uIntsO uIntO opOnes.1 h with ⟨e', -⟩ | ⟨a, len, cap, zs', e', -, hl, hm, -⟩
  · injection e' with e'
    rw [e] at e'
    injection e' with e1 e2 e3
    omega
  · injection e' with e'
    rw [e] at e'
    injection e' with e1 e2 e3
    omega
end Euf
end Go.Proofs.Ytlonnhnfmcndfac
