/- Guarded operations in a region that draws its order, and stores at two worlds side by side; no statement of the seat is proved here. -/
import Derived.Test.YtmnpefiaelpkfacJoin2Classes
import Derived.Test.YtmnpefiaelpkfacJoin4Classes
namespace Go.Proofs.Ytmnpefiaelpkfac
open Go.RowKit
set_option linter.unusedVariables false
theorem wanted_of {ops : Array Oper} {o : Oper} {A : Act} {j s : Nat} {b : Bool} (hg : o.guard = some (j, b)) (hd : (ops[j]?).bind (·.dst) = some s) (ha : A.tmps[s]? = some (.bool b)) : Region.wanted o (yielded ops A.tmps) = true := by
  simp [Region.wanted, hg, yielded, hd, ha]
section
variable {P : Program} {ops : Array Oper} {Q : Exit → Act → World → Prop} {a : Act} {sls : List (Option Nat)} {prs : List (Value → Prop)} {C : CW5} {k : Nat} {o : Oper} {os : List Oper}
theorem StepsE.runG (j s : Nat) (b : Bool) (hg : o.guard = some (j, b)) (hd : (ops[j]?).bind (·.dst) = some s) (hsl : sls[j]? = some (some s)) (haf' : ∀ L, Aft o L = true → L j = true) (hpr : ∀ u, prs.getD j (fun _ => True) u → u = .bool b)
    (h : ∀ L U w, C L U w → (∀ (i s : Nat), L i = true → sls[i]? = some (some s) → prs.getD i (fun _ => True) (U s)) → L k = false → (∀ (i : Nat) (o' : Oper), ops.toList[i]? = some o' → L i = true → Aft o' L = true) → Aft o L = true → ∀ (A : Act) (K : Act → World → Prop), Frm5 a sls U A →
    (∀ v w', prs.getD k (fun _ => True) v → C (fun j => j == k || L j) (updO U o.dst v) w' → K (A.put o.dst v) w') → Gate (Oper.wp P o A w K Q)) (hs : StepsE P ops Q a sls prs C (k + 1) os) : StepsE P ops Q a sls prs C k (o :: os) := by
  refine ⟨fun L U w h1 h2 h3 h4 h5 A K hA hK => ⟨?_⟩, hs⟩
  have hv := hpr _ (h2 j s (haf' L h5) hsl)
  rw [if_pos (wanted_of hg hd (by rw [hA.got j s hsl, hv]))]
  exact (h L U w h1 h2 h3 h4 h5 A K hA hK).out
end
theorem Below.both {B : Nat} {w w' : World} (h : Below B w w') (p : Addr) (v : Value) (hp : p.block < B) : Below B (w.setCell p v) (w'.setCell p v) := by
  refine ⟨h.os, h.tape, h.output, by simpa using h.size, fun k hk => ?_⟩
  by_cases e : k = p.block
  · subst e
    simp only [World.setCell]
    have := h.block p.block hp
    simp [Array.getElem?_modify, this]
  · rw [heap_setCell_other _ p k v e, heap_setCell_other _ p k v e]
    exact h.block k hk
end Go.Proofs.Ytmnpefiaelpkfac
