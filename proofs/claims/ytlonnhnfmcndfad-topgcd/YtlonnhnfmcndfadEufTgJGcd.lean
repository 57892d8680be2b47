/- The walk of suretytop.TopGcd: it answers true at every three numbers. -/
import Derived.Test.YtlonnhnfmcndfadEufChJGcd
import Derived.Test.YtlonnhnfmcndfadRegIJGcd
import Derived.Deep.DeepCutAuto
namespace Go.Proofs.Ytlonnhnfmcndfad
open Go.RowKit
set_option linter.unusedVariables false
theorem seven : TextOf { data := #[55] } 7 := ⟨false, [7], by unfold Norm; rfl, by intro x hx; simp at hx; omega, fun _ => rfl, by simp [sv, val], by rfl⟩
theorem sgn0 (v : Value) (z r : Int) (w : World) (hv : AInt w v z) (hr : z.sign = r) :
    Calls Try.prog 21 #[v] w fun e w' => e = .returned (.int .i64 r) ∧ Below w.heap.size w w' := by
  obtain ⟨neg, xs, h1, h2, h3⟩ := hv
  rw [← hr, h2]
  exact sign_any v neg xs w h1
theorem uInts9 : Try.prog.underlying 35 = some (.slice 3) := by kernel_rfl
theorem iInt9 : (Try.prog.info? 3).map (fun i => (i.zero, i.size, i.bytes)) = some (some (.int .i64 0), 1, 8) := by kernel_rfl
namespace Euf

end Euf
theorem topGcd_any (n m k : Int) (w : World) {p q r : Prop} (hp : p) (hq : q) (hr : r) :
    Calls Try.prog 6 #[.int .i64 n, .int .i64 m, .int .i64 k] w fun e w' => e = .returned (.bool true) ∧ Below w.heap.size w w' := by
  by_cases h : n < 1 ∨ m < 1 ∨ k < 0 ∨ 60 < n ∨ 60 < m ∨ 120 < k
  · exact Euf.topGcd_bad n m k w h
  · obtain ⟨n, rfl⟩ : ∃ n' : Nat, n = n' := ⟨n.toNat, by omega⟩
    obtain ⟨m, rfl⟩ : ∃ m' : Nat, m = m' := ⟨m.toNat, by omega⟩
    obtain ⟨k, rfl⟩ : ∃ k' : Nat, k = k' := ⟨k.toNat, by omega⟩
    exact Euf.topGcd_good n m k w (by omega) (by omega) (by omega) (by omega) (by omega)
end Go.Proofs.Ytlonnhnfmcndfad
