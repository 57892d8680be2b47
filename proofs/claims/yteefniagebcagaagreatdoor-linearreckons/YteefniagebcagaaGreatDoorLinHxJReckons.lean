/- Contracts of linear in the form that the laws' walks use; they prove no statement of the seat. -/
import Derived.Test.YteefniagebcagaaGreatDoorJoin25Reckons
namespace Go.Proofs.YteefniagebcagaaGreatDoor
open Go.RowKit
set_option linter.unusedVariables false

theorem res_open {ok : Prop} {ps : List (Nat × Int)} {r : Int} {v : Value} {c : Int} {w : World} (h : TRes ok ps r v c w) : ∃ p q k x m n f ps' r', v = .agg #[.slice p q k, .bool x, .slice m n f] ∧ TP w p q k x m n f ps' r' ∧ (c = 0 → ok ∧ ps' = ps ∧ r' = r) ∧ (ok → c = 0) := by
  rcases h with ⟨h1, rfl, h2⟩ | ⟨h1, rfl, h2⟩
  · obtain ⟨p, q, k, x, m, n, f, rfl, h⟩ := h2
    exact ⟨p, q, k, x, m, n, f, _, _, rfl, h, fun _ => ⟨h1, rfl, rfl⟩, fun _ => rfl⟩
  · obtain ⟨p, q, k, x, m, n, f, rfl, h⟩ := h2
    exact ⟨p, q, k, x, m, n, f, _, _, rfl, h, (fun k => by cases k), fun k => absurd k h1⟩
theorem sub_x (vX vY : Value) (a b : List (Nat × Int)) (r s : Int) (w : World) (hX : TermR w vX a r) (hY : TermR w vY b s) :
    Calls Tryz.prog 14 #[vX, vY] w fun e w' => ∃ p q r9 x m n c ps k co, e = .returned (.tuple #[.agg #[.slice p q r9, .bool x, .slice m n c], .int .i64 co]) ∧ TP w' p q r9 x m n c ps k ∧ Hid ((co = 0 → tAddOk a (mulP b (-1)) r (-s) ∧ ps = addP a (mulP b (-1)) ∧ k = r + -s) ∧ (tAddOk a (mulP b (-1)) r (-s) → co = 0)) ∧ Below w.heap.size w w' := by
  refine (lsub_any vX vY a b r s w hX hY).mono ?_
  rintro e w' ⟨v, c, rfl, h, hb⟩
  obtain ⟨p, q, k, x, m, n, f, ps, r', rfl, h1, h2, h3⟩ := res_open h
  exact ⟨p, q, k, x, m, n, f, ps, r', c, rfl, h1, ⟨h2, h3⟩, hb⟩
theorem sub_self (v : Value) (a : List (Nat × Int)) (r : Int) (w : World) (hX : TermR w v a r) (hf : Fine a) :
    Calls Tryz.prog 14 #[v, v] w fun e w' => ∃ p q r9 x m n c, e = .returned (.tuple #[.agg #[.slice p q r9, .bool x, .slice m n c], .int .i64 0]) ∧ TP w' p q r9 x m n c [] 0 ∧ Below w.heap.size w w' := by
  refine (sub_x v v a a r r w hX hX).mono ?_
  rintro e w' ⟨p, q, k, x, m, n, f, ps, r', c, rfl, h1, ⟨h2, h3⟩, hb⟩
  have hc : c = 0 := h3 ⟨by have := word_lim; have e : r + -r = 0 := by omega
                            rw [e]; simp; omega, neg_fits a⟩
  subst hc
  obtain ⟨_, rfl, rfl⟩ := h2 rfl
  rw [neg_gone hf, show r + -r = 0 by omega] at h1
  exact ⟨p, q, k, x, m, n, f, rfl, h1, hb⟩
end Go.Proofs.YteefniagebcagaaGreatDoor
