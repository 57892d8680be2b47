/-
  No cell of these rows narrows 'for every input' (looked for: loops, veiled, ifaces, maps, wideKeys, modest, calm, conditions, laid).
  DERIVED. THE GIVEN ROWS OF THIS SEAT. 4 by the template 'for every input the law returns true; each argument reads behind the call as it read before'; 0 by the template 'total and deterministic' (their statements: YtlonnhnfmcndfadTotals.lean).
  GIVEN WITH THE SEED: the statements are not yours to turn. If you find one false, say at which input.
  Laid BY PROGRAM, IN A SANDBOX (cutbox-rows.mjs): the forced cells as the released guide's own fill.sh prints them over the translation 0878af4c2721c5a4… (all of the seat's roots in one cut). By AI agents, Wed Nov 11 2026. No macro, syntax, notation, axiom, sorry.
-/
import Derived.Test.YtlonnhnfmcndfadChecked
import GoSem.Claim
import GoSem.ClaimJoined
import GoSem.ClaimMapViews
import Derived.JoinedTies
import Derived.KernelRfl
namespace Go.Proofs.Ytlonnhnfmcndfad
/- THE CELL 'sum', in the pinned program and in every row, IS THE sha256 OF THE DUMP (.gsa) THAT YtlonnhnfmcndfadProg.lean LOADS. Nothing in Lean hashes anything: it is a label: what it is worth is what the hold of that sum in a sandbox is worth. -/
noncomputable def Try.pinned : Pinned := { name := "ytlonnhnfmcndfad", sum := "0878af4c2721c5a4ccd78cbc93343b9cfebcbc1d782d2947ef68eef3013b4d24", checked := Try.checked }
namespace Rows
def none {H : Type} : Left H := { results := [], args := [] }

/-- 'suretylaw05.EufTurned': WHATEVER THE INPUT: true; the input reads as it did. -/
def eufTurnedSpec : ChangeSpec := { name := "eufTurned", fn := fun _ => fun
  | [d] => { results := [.lit (.bool true)], args := [d] }
  | _ => none }
def eufTurnedRow : OpenClaim := { program := "ytlonnhnfmcndfad", sum := "0878af4c2721c5a4ccd78cbc93343b9cfebcbc1d782d2947ef68eef3013b4d24", func := "surety/suretylaw05.EufTurned", spec := "eufTurned", recurses := true, plainKeys := false, apart := false }
def EufTurnedSaid : Prop := eufTurnedRow.holds Try.pinned (OpenSpec.ofChange eufTurnedSpec)

/-- ITS FALSE NEIGHBOUR: 'it returns false'. Refute it at one input. -/
def eufTurnedWrong : ChangeSpec := { name := "eufTurned", fn := fun _ => fun
  | [d] => { results := [.lit (.bool false)], args := [d] }
  | _ => none }
def EufTurnedWrongFalsely : Prop := eufTurnedRow.holds Try.pinned (OpenSpec.ofChange eufTurnedWrong)

/-- 'suretylaw05.EufBack': WHATEVER THE INPUT: true; the input reads as it did. -/
def eufBackSpec : ChangeSpec := { name := "eufBack", fn := fun _ => fun
  | [d1, d2] => { results := [.lit (.bool true)], args := [d1, d2] }
  | _ => none }
def eufBackRow : OpenClaim := { program := "ytlonnhnfmcndfad", sum := "0878af4c2721c5a4ccd78cbc93343b9cfebcbc1d782d2947ef68eef3013b4d24", func := "surety/suretylaw05.EufBack", spec := "eufBack", recurses := true, plainKeys := false, apart := false }
def EufBackSaid : Prop := eufBackRow.holds Try.pinned (OpenSpec.ofChange eufBackSpec)

/-- ITS FALSE NEIGHBOUR: 'it returns false'. Refute it at one input. -/
def eufBackWrong : ChangeSpec := { name := "eufBack", fn := fun _ => fun
  | [d1, d2] => { results := [.lit (.bool false)], args := [d1, d2] }
  | _ => none }
def EufBackWrongFalsely : Prop := eufBackRow.holds Try.pinned (OpenSpec.ofChange eufBackWrong)

/-- 'suretylaw05.EufGrows': WHATEVER THE INPUT: true; the input reads as it did. -/
def eufGrowsSpec : ChangeSpec := { name := "eufGrows", fn := fun _ => fun
  | [d1, d2, d3] => { results := [.lit (.bool true)], args := [d1, d2, d3] }
  | _ => none }
def eufGrowsRow : OpenClaim := { program := "ytlonnhnfmcndfad", sum := "0878af4c2721c5a4ccd78cbc93343b9cfebcbc1d782d2947ef68eef3013b4d24", func := "surety/suretylaw05.EufGrows", spec := "eufGrows", recurses := true, plainKeys := false, apart := false }
def EufGrowsSaid : Prop := eufGrowsRow.holds Try.pinned (OpenSpec.ofChange eufGrowsSpec)

/-- ITS FALSE NEIGHBOUR: 'it returns false'. Refute it at one input. -/
def eufGrowsWrong : ChangeSpec := { name := "eufGrows", fn := fun _ => fun
  | [d1, d2, d3] => { results := [.lit (.bool false)], args := [d1, d2, d3] }
  | _ => none }
def EufGrowsWrongFalsely : Prop := eufGrowsRow.holds Try.pinned (OpenSpec.ofChange eufGrowsWrong)

/-- 'suretytop.TopGcd': WHATEVER THE INPUT: true; the input reads as it did. -/
def topGcdSpec : ChangeSpec := { name := "topGcd", fn := fun _ => fun
  | [d1, d2, d3] => { results := [.lit (.bool true)], args := [d1, d2, d3] }
  | _ => none }
def topGcdRow : OpenClaim := { program := "ytlonnhnfmcndfad", sum := "0878af4c2721c5a4ccd78cbc93343b9cfebcbc1d782d2947ef68eef3013b4d24", func := "surety/suretytop.TopGcd", spec := "topGcd", plainKeys := false, apart := false }
def TopGcdSaid : Prop := topGcdRow.holds Try.pinned (OpenSpec.ofChange topGcdSpec)

/-- ITS FALSE NEIGHBOUR: 'it returns false'. Refute it at one input. -/
def topGcdWrong : ChangeSpec := { name := "topGcd", fn := fun _ => fun
  | [d1, d2, d3] => { results := [.lit (.bool false)], args := [d1, d2, d3] }
  | _ => none }
def TopGcdWrongFalsely : Prop := topGcdRow.holds Try.pinned (OpenSpec.ofChange topGcdWrong)

/- THE SECOND FORM. 'bulk': how many values and letters a reading holds, each counted each time it is reached (what is shared counts as often as it is met; a slice's spare places count too). A statement '..UptoSaid' is the law's where the arguments, and the package variables that the reading takes, are together of bulk at most 1048576: NARROWER than '..Said'. Prove '..Said' where nothing that the law and all that it calls make is longer than what came in: it says more and counts as full. Else prove '..UptoSaid'. A law counts once. -/
mutual
def uptoBulk {H : Type} : DataW H → Nat
  | .lit (.string bytes) => bytes.length + 1
  | .lit _ => 1
  | .nil => 1
  | .ptr d => uptoBulk d + 1
  | .slice elems spare => uptoBulkAll elems + uptoBulkAll spare + 1
  | .agg parts => uptoBulkAll parts + 1
  | .iface _ d => uptoBulk d + 1
  | .map entries => uptoBulkEntries entries + 1
  | .held _ => 1
def uptoBulkAll {H : Type} : List (DataW H) → Nat
  | [] => 0
  | d :: r => uptoBulk d + uptoBulkAll r
def uptoBulkEntries {H : Type} : List (Lit × DataW H) → Nat
  | [] => 0
  | x :: r => uptoBulkEntry x + uptoBulkEntries r
def uptoBulkEntry {H : Type} : Lit × DataW H → Nat
  | (.string bytes, d) => bytes.length + uptoBulk d + 1
  | (_, d) => uptoBulk d + 1
 end
def uptoSmall : (H : Type) → List (DataW H) → Bool := fun _ ds => decide (uptoBulkAll ds ≤ 1048576)
def OpenSpec.upto (s : _root_.Go.ChangeSpec) : _root_.Go.OpenSpec := { _root_.Go.OpenSpec.ofChange s with cond := some uptoSmall }

/-- 'suretylaw05.EufTurned', WHERE WHAT IT READS IS OF BULK AT MOST 1048576: true; the input reads as it did. -/
def eufTurnedUptoRow : OpenClaim := { program := "ytlonnhnfmcndfad", sum := "0878af4c2721c5a4ccd78cbc93343b9cfebcbc1d782d2947ef68eef3013b4d24", func := "surety/suretylaw05.EufTurned", spec := "eufTurned", recurses := true, plainKeys := false, apart := false, narrowed := true }
def EufTurnedUptoSaid : Prop := eufTurnedUptoRow.holds Try.pinned (OpenSpec.upto eufTurnedSpec)

/-- 'suretylaw05.EufBack', WHERE WHAT IT READS IS OF BULK AT MOST 1048576: true; the input reads as it did. -/
def eufBackUptoRow : OpenClaim := { program := "ytlonnhnfmcndfad", sum := "0878af4c2721c5a4ccd78cbc93343b9cfebcbc1d782d2947ef68eef3013b4d24", func := "surety/suretylaw05.EufBack", spec := "eufBack", recurses := true, plainKeys := false, apart := false, narrowed := true }
def EufBackUptoSaid : Prop := eufBackUptoRow.holds Try.pinned (OpenSpec.upto eufBackSpec)

/-- 'suretylaw05.EufGrows', WHERE WHAT IT READS IS OF BULK AT MOST 1048576: true; the input reads as it did. -/
def eufGrowsUptoRow : OpenClaim := { program := "ytlonnhnfmcndfad", sum := "0878af4c2721c5a4ccd78cbc93343b9cfebcbc1d782d2947ef68eef3013b4d24", func := "surety/suretylaw05.EufGrows", spec := "eufGrows", recurses := true, plainKeys := false, apart := false, narrowed := true }
def EufGrowsUptoSaid : Prop := eufGrowsUptoRow.holds Try.pinned (OpenSpec.upto eufGrowsSpec)

/-- 'suretytop.TopGcd', WHERE WHAT IT READS IS OF BULK AT MOST 1048576: true; the input reads as it did. -/
def topGcdUptoRow : OpenClaim := { program := "ytlonnhnfmcndfad", sum := "0878af4c2721c5a4ccd78cbc93343b9cfebcbc1d782d2947ef68eef3013b4d24", func := "surety/suretytop.TopGcd", spec := "topGcd", plainKeys := false, apart := false, narrowed := true }
def TopGcdUptoSaid : Prop := topGcdUptoRow.holds Try.pinned (OpenSpec.upto topGcdSpec)

end Rows
end Go.Proofs.Ytlonnhnfmcndfad
