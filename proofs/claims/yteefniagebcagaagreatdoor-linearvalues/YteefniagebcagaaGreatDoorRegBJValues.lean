/- Words for regions that only read: all that lay there stays; they prove no statement of the seat. -/
import Derived.Test.YteefniagebcagaaGreatDoorLinPlJValues
import Derived.Test.YteefniagebcagaaGreatDoorLinSRJValues
import Derived.Test.YteefniagebcagaaGreatDoorLinSmJValues
namespace Go.Proofs.YteefniagebcagaaGreatDoor
open Go.RowKit
set_option linter.unusedVariables false

/-- All that lay there stays. -/
structure KeepB (w w' : World) : Prop where
  b : Below w.heap.size w w'
theorem KeepB.below {w w' : World} (h : Below w.heap.size w w') : KeepB w w' := ⟨h⟩
theorem KeepB.trans {a b c : World} (h : KeepB a b) (k : KeepB b c) : KeepB a c := ⟨h.b.step k.b (Nat.le_refl _)⟩
theorem KeepB.p {w w' : World} (h : KeepB w w') : KeepP w w' := KeepP.below h.b
def MonoB (p : Value → World → Prop) : Prop := ∀ u w w', KeepB w w' → p u w → p u w'
theorem MonoP.b {p : Value → World → Prop} (h : MonoP p) : MonoB p := fun u w w' hk => h u w w' hk.p
theorem mb_is {v : Value} : MonoB (IS v) := mp_is.b
theorem mb_int {z : Int} : MonoB (INT z) := mp_int.b
theorem mb_rnm {z : Int} {N : Nat} : MonoB (RNM z N) := mp_rnm.b
theorem mb_trm {ps : List (Nat × Int)} {r : Int} : MonoB (TRM ps r) := mp_trm.b
theorem mb_row {ps : List (Nat × Int)} {m : Int} : MonoB (ROW ps m) := mp_row.b
theorem mb_t2 {p q : Value → World → Prop} (hp : MonoB p) (hq : MonoB q) : MonoB (T2 p q) := fun _ w w' hk h => by
  obtain ⟨a, b, h1, h2, h3⟩ := h
  exact ⟨a, b, h1, hp _ _ _ hk h2, hq _ _ _ hk h3⟩
theorem mvB {p : Value → World → Prop} (hp : MonoB p) {w w' : World} (hk : KeepB w w') {b : Prop} {u : Value} (h : b → p u w) : b → p u w' := fun k => hp _ _ _ hk (h k)
/-- The plain row of a sum and a number. -/
def PLN (a : List (Nat × Int)) (m : Int) : Value → World → Prop := fun u w => ∃ ao n cap, u = .agg #[.slice ao n cap, .string (nT m)] ∧ (plainM a).length = n ∧ MArr w ao (plainM a)
theorem mb_pln {a : List (Nat × Int)} {m : Int} : MonoB (PLN a m) := fun _ _ _ hk h => by
  obtain ⟨ao, n, cap, h1, h2, h3⟩ := h
  exact ⟨ao, n, cap, h1, h2, h3.below hk.b⟩
theorem plain_h (v : Value) (a : List (Nat × Int)) (m : Int) (w : World) (hX : RowR w v a m) :
    Calls Tryz.prog 43 #[v] w fun e w' => ∃ u, e = .returned u ∧ PLN a m u w' ∧ Below w.heap.size w w' := by
  refine (plain_any v a m w hX).mono ?_
  rintro e w' ⟨ao, n, cap, rfl, h1, h2, hb⟩
  exact ⟨_, rfl, ⟨ao, n, cap, rfl, h1, h2⟩, hb⟩
theorem sameRow_h (u v : Value) (a : List (Nat × Int)) (m : Int) (w : World) (hx : PLN a m u w) (hy : PLN a m v w) (hf : Fine a) :
    Calls Tryz.prog 42 #[u, v] w fun e w' => e = .returned (.bool true) ∧ Below w.heap.size w w' := by
  obtain ⟨ao, n, cap, rfl, h1, h2⟩ := hx
  obtain ⟨bo, n', cap', rfl, h1', h2'⟩ := hy
  obtain rfl := h1.symm.trans h1'
  refine sameRow_yes ao bo n cap cap' (nT m) (plainM a) w h2 h2' h1 ?_
  rw [← h1]
  unfold plainM maxLen
  rw [List.length_map]
  have := hf.len
  omega
end Go.Proofs.YteefniagebcagaaGreatDoor
