/- A script as it came in; no statement of the seat is proved here. -/
import Derived.Test.YtmnpefiaelpkfacJoin3Classes
namespace Go.Proofs.Ytmnpefiaelpkfac
open Go.RowKit
set_option linter.unusedVariables false
namespace Euf
structure OpS where
  kind : Int
  fn : ByteArray
  zs : List Int
  a : Int
  b : Int
/-- What an op's cells hold. -/
def opV (o : OpS) (aZ : Option Addr) (cZ : Nat) : Value := .agg #[.int .i64 o.kind, .string o.fn, .slice aZ o.zs.length cZ, .int .i64 o.a, .int .i64 o.b]
structure OpOk (w0 : World) (o : OpS) (aZ : Option Addr) (cZ : Nat) : Prop where
  zs : AI w0 (.slice aZ o.zs.length cZ) o.zs
  nil : aZ = none → o.zs = [] ∧ cZ = 0
  blk : 0 < o.zs.length → ∀ b off, aZ = some ⟨b, off, none⟩ → b < w0.heap.size
  fn : o.fn.size ≤ maxLen
  len : o.zs.length ≤ 20
def noOp : OpS := ⟨3, ByteArray.empty, [], 0, 0⟩
/-- A script as it came in. -/
structure Scr (w0 : World) (aS : Option Addr) (ops : List OpS) : Prop where
  at_ : ∀ i, i < ops.length → ∃ b off aZ cZ, aS = some ⟨b, off, none⟩ ∧ b < w0.heap.size ∧ w0.cell? ⟨b, off + i * 5, none⟩ = some (.int .i64 (ops.getD i noOp).kind) ∧ w0.cell? ⟨b, off + i * 5 + 1, none⟩ = some (.string (ops.getD i noOp).fn) ∧ w0.cell? ⟨b, off + i * 5 + 2, none⟩ = some (.slice aZ (ops.getD i noOp).zs.length cZ) ∧ w0.cell? ⟨b, off + i * 5 + 3, none⟩ = some (.int .i64 (ops.getD i noOp).a) ∧ w0.cell? ⟨b, off + i * 5 + 4, none⟩ = some (.int .i64 (ops.getD i noOp).b) ∧ ((ops.getD i noOp).zs.length ≤ 20 → OpOk w0 (ops.getD i noOp) aZ cZ)
end Euf
end Go.Proofs.Ytmnpefiaelpkfac
