/-
  No cell of these rows narrows 'for every input' (looked for: loops, veiled, ifaces, maps, wideKeys, modest, calm, conditions, laid).
  DERIVED. THE GIVEN ROWS OF THIS SEAT. 5 by the template 'for every input the law returns true; each argument reads behind the call as it read before'; 0 by the template 'total and deterministic' (their statements: YtidpbdhhbeaijabTotals.lean).
  GIVEN WITH THE SEED: the statements are not yours to turn. If you find one false, say at which input.
  Laid BY PROGRAM, IN A SANDBOX (cutbox-rows.mjs): the forced cells as the released guide's own fill.sh prints them over the translation 7cf71fe7d5c8731a… (all of the seat's roots in one cut). By AI agents, Wed Nov 11 2026. No macro, syntax, notation, axiom, sorry.
-/
import Derived.Test.YtidpbdhhbeaijabChecked
import GoSem.Claim
import GoSem.ClaimJoined
import GoSem.ClaimMapViews
import Derived.JoinedTies
import Derived.KernelRfl
namespace Go.Proofs.Ytidpbdhhbeaijab
/- THE CELL 'sum', in the pinned program and in every row, IS THE sha256 OF THE DUMP (.gsa) THAT YtidpbdhhbeaijabProg.lean LOADS. Nothing in Lean hashes anything: it is a label: what it is worth is what the hold of that sum in a sandbox is worth. -/
noncomputable def Try.pinned : Pinned := { name := "ytidpbdhhbeaijab", sum := "7cf71fe7d5c8731a99d3fb57d5c66fc54e4c871efffae4c82523c79fd5545172", checked := Try.checked }
namespace Rows
def none {H : Type} : Left H := { results := [], args := [] }

/-- 'suretylaw02.RatioField': WHATEVER THE INPUT: true; the input reads as it did. -/
def ratioFieldSpec : ChangeSpec := { name := "ratioField", fn := fun _ => fun
  | [d1, d2] => { results := [.lit (.bool true)], args := [d1, d2] }
  | _ => none }
def ratioFieldRow : OpenClaim := { program := "ytidpbdhhbeaijab", sum := "7cf71fe7d5c8731a99d3fb57d5c66fc54e4c871efffae4c82523c79fd5545172", func := "surety/suretylaw02.RatioField", spec := "ratioField", inPlace := ["internal/bytealg.IndexByteString", "internal/bytealg.IndexString"], named := ["internal/bytealg.MaxLen"], apart := false }
def RatioFieldSaid : Prop := ratioFieldRow.holds Try.pinned (OpenSpec.ofChange ratioFieldSpec)

/-- ITS FALSE NEIGHBOUR: 'it returns false'. Refute it at one input. -/
def ratioFieldWrong : ChangeSpec := { name := "ratioField", fn := fun _ => fun
  | [d1, d2] => { results := [.lit (.bool false)], args := [d1, d2] }
  | _ => none }
def RatioFieldWrongFalsely : Prop := ratioFieldRow.holds Try.pinned (OpenSpec.ofChange ratioFieldWrong)

/-- 'suretylaw02.RatioFolds': WHATEVER THE INPUT: true; the input reads as it did. -/
def ratioFoldsSpec : ChangeSpec := { name := "ratioFolds", fn := fun _ => fun
  | [d1, d2] => { results := [.lit (.bool true)], args := [d1, d2] }
  | _ => none }
def ratioFoldsRow : OpenClaim := { program := "ytidpbdhhbeaijab", sum := "7cf71fe7d5c8731a99d3fb57d5c66fc54e4c871efffae4c82523c79fd5545172", func := "surety/suretylaw02.RatioFolds", spec := "ratioFolds", inPlace := ["internal/bytealg.IndexByteString", "internal/bytealg.IndexString"], unfollowed := true, recurses := true, named := ["internal/bytealg.MaxLen"], apart := false }
def RatioFoldsSaid : Prop := ratioFoldsRow.holds Try.pinned (OpenSpec.ofChange ratioFoldsSpec)

/-- ITS FALSE NEIGHBOUR: 'it returns false'. Refute it at one input. -/
def ratioFoldsWrong : ChangeSpec := { name := "ratioFolds", fn := fun _ => fun
  | [d1, d2] => { results := [.lit (.bool false)], args := [d1, d2] }
  | _ => none }
def RatioFoldsWrongFalsely : Prop := ratioFoldsRow.holds Try.pinned (OpenSpec.ofChange ratioFoldsWrong)

/-- 'suretylaw02.RatioInverts': WHATEVER THE INPUT: true; the input reads as it did. -/
def ratioInvertsSpec : ChangeSpec := { name := "ratioInverts", fn := fun _ => fun
  | [d] => { results := [.lit (.bool true)], args := [d] }
  | _ => none }
def ratioInvertsRow : OpenClaim := { program := "ytidpbdhhbeaijab", sum := "7cf71fe7d5c8731a99d3fb57d5c66fc54e4c871efffae4c82523c79fd5545172", func := "surety/suretylaw02.RatioInverts", spec := "ratioInverts", inPlace := ["internal/bytealg.IndexByteString", "internal/bytealg.IndexString"], named := ["internal/bytealg.MaxLen"], apart := false }
def RatioInvertsSaid : Prop := ratioInvertsRow.holds Try.pinned (OpenSpec.ofChange ratioInvertsSpec)

/-- ITS FALSE NEIGHBOUR: 'it returns false'. Refute it at one input. -/
def ratioInvertsWrong : ChangeSpec := { name := "ratioInverts", fn := fun _ => fun
  | [d] => { results := [.lit (.bool false)], args := [d] }
  | _ => none }
def RatioInvertsWrongFalsely : Prop := ratioInvertsRow.holds Try.pinned (OpenSpec.ofChange ratioInvertsWrong)

/-- 'suretylaw02.RatioMiddles': WHATEVER THE INPUT: true; the input reads as it did. -/
def ratioMiddlesSpec : ChangeSpec := { name := "ratioMiddles", fn := fun _ => fun
  | [d1, d2] => { results := [.lit (.bool true)], args := [d1, d2] }
  | _ => none }
def ratioMiddlesRow : OpenClaim := { program := "ytidpbdhhbeaijab", sum := "7cf71fe7d5c8731a99d3fb57d5c66fc54e4c871efffae4c82523c79fd5545172", func := "surety/suretylaw02.RatioMiddles", spec := "ratioMiddles", inPlace := ["internal/bytealg.IndexByteString", "internal/bytealg.IndexString"], named := ["internal/bytealg.MaxLen"], apart := false }
def RatioMiddlesSaid : Prop := ratioMiddlesRow.holds Try.pinned (OpenSpec.ofChange ratioMiddlesSpec)

/-- ITS FALSE NEIGHBOUR: 'it returns false'. Refute it at one input. -/
def ratioMiddlesWrong : ChangeSpec := { name := "ratioMiddles", fn := fun _ => fun
  | [d1, d2] => { results := [.lit (.bool false)], args := [d1, d2] }
  | _ => none }
def RatioMiddlesWrongFalsely : Prop := ratioMiddlesRow.holds Try.pinned (OpenSpec.ofChange ratioMiddlesWrong)

/-- 'suretylaw02.RatioMoves': WHATEVER THE INPUT: true; the input reads as it did. -/
def ratioMovesSpec : ChangeSpec := { name := "ratioMoves", fn := fun _ => fun
  | [d1, d2] => { results := [.lit (.bool true)], args := [d1, d2] }
  | _ => none }
def ratioMovesRow : OpenClaim := { program := "ytidpbdhhbeaijab", sum := "7cf71fe7d5c8731a99d3fb57d5c66fc54e4c871efffae4c82523c79fd5545172", func := "surety/suretylaw02.RatioMoves", spec := "ratioMoves", inPlace := ["internal/bytealg.IndexByteString", "internal/bytealg.IndexString"], named := ["internal/bytealg.MaxLen"], apart := false }
def RatioMovesSaid : Prop := ratioMovesRow.holds Try.pinned (OpenSpec.ofChange ratioMovesSpec)

/-- ITS FALSE NEIGHBOUR: 'it returns false'. Refute it at one input. -/
def ratioMovesWrong : ChangeSpec := { name := "ratioMoves", fn := fun _ => fun
  | [d1, d2] => { results := [.lit (.bool false)], args := [d1, d2] }
  | _ => none }
def RatioMovesWrongFalsely : Prop := ratioMovesRow.holds Try.pinned (OpenSpec.ofChange ratioMovesWrong)

/- THE SECOND FORM. 'bulk': how many values and letters a reading holds, each counted each time it is reached (what is shared counts as often as it is met; a slice's spare places count too). A statement '..UptoSaid' is the law's where the arguments, and the package variables that the reading takes, are together of bulk at most 1048576: NARROWER than '..Said'. Prove '..Said' where nothing that the law and all that it calls make is longer than what came in: it says more and counts as full. Else prove '..UptoSaid'. A law counts once. -/
mutual
def uptoBulk {H : Type} : DataW H → Nat
  | .lit (.string bytes) => bytes.length + 1
  | .lit _ => 1
  | .nil => 1
  | .ptr d => uptoBulk d + 1
  | .slice elems spare => uptoBulkAll elems + uptoBulkAll spare + 1
  | .agg parts => uptoBulkAll parts + 1
  | .iface _ d => uptoBulk d + 1
  | .map entries => uptoBulkEntries entries + 1
  | .held _ => 1
def uptoBulkAll {H : Type} : List (DataW H) → Nat
  | [] => 0
  | d :: r => uptoBulk d + uptoBulkAll r
def uptoBulkEntries {H : Type} : List (Lit × DataW H) → Nat
  | [] => 0
  | x :: r => uptoBulkEntry x + uptoBulkEntries r
def uptoBulkEntry {H : Type} : Lit × DataW H → Nat
  | (.string bytes, d) => bytes.length + uptoBulk d + 1
  | (_, d) => uptoBulk d + 1
 end
def uptoSmall : (H : Type) → List (DataW H) → Bool := fun _ ds => decide (uptoBulkAll ds ≤ 1048576)
def OpenSpec.upto (s : _root_.Go.ChangeSpec) : _root_.Go.OpenSpec := { _root_.Go.OpenSpec.ofChange s with cond := some uptoSmall }

/-- 'suretylaw02.RatioField', WHERE WHAT IT READS IS OF BULK AT MOST 1048576: true; the input reads as it did. -/
def ratioFieldUptoRow : OpenClaim := { program := "ytidpbdhhbeaijab", sum := "7cf71fe7d5c8731a99d3fb57d5c66fc54e4c871efffae4c82523c79fd5545172", func := "surety/suretylaw02.RatioField", spec := "ratioField", inPlace := ["internal/bytealg.IndexByteString", "internal/bytealg.IndexString"], named := ["internal/bytealg.MaxLen"], apart := false, narrowed := true }
def RatioFieldUptoSaid : Prop := ratioFieldUptoRow.holds Try.pinned (OpenSpec.upto ratioFieldSpec)

/-- 'suretylaw02.RatioFolds', WHERE WHAT IT READS IS OF BULK AT MOST 1048576: true; the input reads as it did. -/
def ratioFoldsUptoRow : OpenClaim := { program := "ytidpbdhhbeaijab", sum := "7cf71fe7d5c8731a99d3fb57d5c66fc54e4c871efffae4c82523c79fd5545172", func := "surety/suretylaw02.RatioFolds", spec := "ratioFolds", inPlace := ["internal/bytealg.IndexByteString", "internal/bytealg.IndexString"], unfollowed := true, recurses := true, named := ["internal/bytealg.MaxLen"], apart := false, narrowed := true }
def RatioFoldsUptoSaid : Prop := ratioFoldsUptoRow.holds Try.pinned (OpenSpec.upto ratioFoldsSpec)

/-- 'suretylaw02.RatioInverts', WHERE WHAT IT READS IS OF BULK AT MOST 1048576: true; the input reads as it did. -/
def ratioInvertsUptoRow : OpenClaim := { program := "ytidpbdhhbeaijab", sum := "7cf71fe7d5c8731a99d3fb57d5c66fc54e4c871efffae4c82523c79fd5545172", func := "surety/suretylaw02.RatioInverts", spec := "ratioInverts", inPlace := ["internal/bytealg.IndexByteString", "internal/bytealg.IndexString"], named := ["internal/bytealg.MaxLen"], apart := false, narrowed := true }
def RatioInvertsUptoSaid : Prop := ratioInvertsUptoRow.holds Try.pinned (OpenSpec.upto ratioInvertsSpec)

/-- 'suretylaw02.RatioMiddles', WHERE WHAT IT READS IS OF BULK AT MOST 1048576: true; the input reads as it did. -/
def ratioMiddlesUptoRow : OpenClaim := { program := "ytidpbdhhbeaijab", sum := "7cf71fe7d5c8731a99d3fb57d5c66fc54e4c871efffae4c82523c79fd5545172", func := "surety/suretylaw02.RatioMiddles", spec := "ratioMiddles", inPlace := ["internal/bytealg.IndexByteString", "internal/bytealg.IndexString"], named := ["internal/bytealg.MaxLen"], apart := false, narrowed := true }
def RatioMiddlesUptoSaid : Prop := ratioMiddlesUptoRow.holds Try.pinned (OpenSpec.upto ratioMiddlesSpec)

/-- 'suretylaw02.RatioMoves', WHERE WHAT IT READS IS OF BULK AT MOST 1048576: true; the input reads as it did. -/
def ratioMovesUptoRow : OpenClaim := { program := "ytidpbdhhbeaijab", sum := "7cf71fe7d5c8731a99d3fb57d5c66fc54e4c871efffae4c82523c79fd5545172", func := "surety/suretylaw02.RatioMoves", spec := "ratioMoves", inPlace := ["internal/bytealg.IndexByteString", "internal/bytealg.IndexString"], named := ["internal/bytealg.MaxLen"], apart := false, narrowed := true }
def RatioMovesUptoSaid : Prop := ratioMovesUptoRow.holds Try.pinned (OpenSpec.upto ratioMovesSpec)

end Rows
end Go.Proofs.Ytidpbdhhbeaijab
