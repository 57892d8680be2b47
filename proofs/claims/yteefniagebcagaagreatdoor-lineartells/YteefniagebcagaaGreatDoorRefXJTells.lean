/- Contracts of suretyref03 in the form that the laws' walks use; they prove no statement of the seat. -/
import Derived.Test.YteefniagebcagaaGreatDoorRefSJTells
import Derived.Test.YteefniagebcagaaGreatDoorLinHxJTells
import Derived.Test.YteefniagebcagaaGreatDoorShowsJTells
namespace Go.Proofs.YteefniagebcagaaGreatDoor
open Go.RowKit
set_option linter.unusedVariables false

theorem Tm.det : ∀ {ms : List (Int × ByteArray)} {a : List (Nat × Int)} {r : Int} {b b' : List (Nat × Int)} {s s' : Int}, Tm ms a r b s → Tm ms a r b' s' → b = b' ∧ s = s'
  | [], _, _, _, _, _, _, h, k => ⟨h.1.trans k.1.symm, h.2.trans k.2.symm⟩
  | _ :: _, _, _, _, _, _, _, h, k => Tm.det h.2.2 k.2.2
theorem rshow_h (v : Value) (z : Int) (L : Nat) (w : World) (hv : RNum w v z L) (hL : L ≤ 20000) :
    Calls Tryz.prog 32 #[v] w fun e w' => e = .returned (.string (nT z)) ∧ Below w.heap.size w w' := by
  refine (show_a v z L w hv hL).mono ?_
  rintro e w' ⟨S, rfl, h, hb⟩
  rw [h.nT]
  exact ⟨rfl, hb⟩
/-- term and Sum of the same plain parts. -/
theorem term_sum {ms : List (Int × ByteArray)} {ps qs : List (Nat × Int)} {r s co : Int} (h : (true = true → Tm ms [] 0 ps r) ∧ (true = false → ∀ b s, ¬ Tm ms [] 0 b s)) (k : (co = 0 → Tm ms [] 0 qs s) ∧ (co ≠ 0 → ∀ b s, ¬ Tm ms [] 0 b s)) : co = 0 ∧ qs = ps ∧ s = r := by
  have h1 := h.1 rfl
  by_cases hc : co = 0
  · obtain ⟨e1, e2⟩ := Tm.det h1 (k.1 hc)
    exact ⟨hc, e1.symm, e2.symm⟩
  · exact absurd h1 (k.2 hc _ _)
end Go.Proofs.YteefniagebcagaaGreatDoor
