/- Joined: EufM, EufW, EufG, EufH: words and contracts; no statement of the seat is proved here. -/
import Derived.WalkKit
import Derived.WalkSpells
import Derived.WalkLawsBesides
import Derived.Handy
import Derived.Laws.CopyOwn
import Derived.Laws.OwnMore
import Derived.Maps.OwnSet
import Derived.Test.YtlonnhnfmcndfadChecked
import Derived.BigQuiet
import Derived.Deep.QuietTactic
import Derived.Deep.LoopGhost
/- Plain facts on terms that are the same by equations: classes, signatures, claims; no statement of the seat is proved here. -/
namespace Go.Proofs.Ytlonnhnfmcndfad
set_option linter.unusedVariables false
namespace Euf

/-- A function with one place changed. -/
def upd {α : Type} (f : Nat → α) (i : Nat) (x : α) : Nat → α := fun j => if j = i then x else f j
structure Part where
  front : Int
  arg : Int
  node : Int
structure Spot where
  cls : Nat
  next : Nat
  up : Int
  why : Int
  size : Nat
  least : Int
  uses : List Nat
structure Claim where
  a : Nat
  b : Nat
  why : Int

/-- The classes of which a part is made. -/
def sig (P : Nat → Part) (S : Nat → Spot) (i : Nat) : Nat × Nat := ((S (P i).front.toNat).cls, (S (P i).arg.toNat).cls)

section
variable {np ns : Nat} {P : Nat → Part} {S : Nat → Spot} {sg : Nat × Nat → Option Nat} {cl : List Claim} {out : List Nat}
end

/-! ## A class goes over to another one -/
/-- The signatures without those of some parts. -/
def drop (P : Nat → Part) (S : Nat → Spot) (sg : Nat × Nat → Option Nat) (l : List Nat) : Nat × Nat → Option Nat := fun k => if k ∈ l.map (sig P S) then none else sg k

section
variable {np ns : Nat} {P : Nat → Part} {S : Nat → Spot} {sg : Nat × Nat → Option Nat} {cl : List Claim} {out : List Nat}
end

section
variable {np ns : Nat} {P : Nat → Part} {S : Nat → Spot} {sg : Nat × Nat → Option Nat} {cl : List Claim} {out : List Nat}
end

section
variable {np ns : Nat} {P : Nat → Part} {S : Nat → Spot} {sg : Nat × Nat → Option Nat} {cl : List Claim} {out : List Nat}
/-! ## One part more -/
end

/-! ## Till no claim is left -/
section
variable {np ns : Nat} {P : Nat → Part} {S T : Nat → Spot} {sg tg : Nat × Nat → Option Nat} {cl : List Claim}
end
end Euf
end Go.Proofs.Ytlonnhnfmcndfad
/- Words for lists that live behind a pointer: their cells by a function, writing one of them, append; no statement of the seat is proved here. -/
namespace Go.Proofs.Ytlonnhnfmcndfad
open Go.RowKit
set_option linter.unusedVariables false
namespace Euf

section
variable {sz : Nat} {e : TypeId} {w w' : World} {v : Value} {n : Nat} {f : Nat → List Value}
end
/-! ## Maps to ints -/
section
variable {P : Program} {K E : TypeId} {w w' : World} {b n : Nat} {m : Value → Option Int}
end
end Euf
end Go.Proofs.Ytlonnhnfmcndfad
/- The graph in the machine: what lies behind its pointer; no statement of the seat is proved here. -/
namespace Go.Proofs.Ytlonnhnfmcndfad
open Go.RowKit
set_option linter.unusedVariables false
namespace Euf

/-- What doesn't change while classes are made. -/
structure Fx where
  np : Nat
  P : Nat → Part
  nw : Nat
  W : Nat → Nat
  ne : Nat
  E : Nat → Nat × Nat × Nat
/-- The classes. -/
structure Sx where
  ns : Nat
  S : Nat → Spot
  sg : Nat × Nat → Option Nat
  cl : List Claim
/-- Where it lies. -/
structure Lx where
  c0 : Value
  c1 : Value
  c2 : Value
  c3 : Value
  vP : Value
  vW : Value
  bG : Nat
structure Ly where
  vS : Value
  vC : Value
  au : Nat → Value
section
variable {w w' : World} {g : Nat} {x : Lx} {f : Fx} {m : Nat} {y : Ly} {s : Sx}
end
end Euf
end Go.Proofs.Ytlonnhnfmcndfad
/- The contract of hang; it proves no statement of the seat. -/
namespace Go.Proofs.Ytlonnhnfmcndfad
open Go.RowKit
set_option linter.unusedVariables false
namespace Euf
end Euf
end Go.Proofs.Ytlonnhnfmcndfad
