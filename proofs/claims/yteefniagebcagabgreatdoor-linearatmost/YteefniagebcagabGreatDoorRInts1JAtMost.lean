/- Contracts of suretyref01's Cmp, Neg, Abs, From; they prove no statement of the seat. -/
import Derived.Test.YteefniagebcagabGreatDoorJoin12AtMost
namespace Go.Proofs.YteefniagebcagabGreatDoor
open Go.RowKit

theorem sv_pos10 {ds : List Nat} {neg : Bool} (hn : Norm ds) (h : ds.length = 0 → neg = false) : neg = true → 0 < val 10 ds := by
  intro hneg
  refine (hn.pos (B := 10) (List.ne_nil_of_length_pos ?_)).resolve_right (by decide)
  rcases Nat.eq_zero_or_pos ds.length with k | k
  · rw [h k] at hneg; cases hneg
  · exact k

theorem rtrim_seg (neg : Bool) (v : Value) (xs : List Nat) (z : Int) (w : World) (hv : ∃ ao cap, v = .slice ao xs.length cap ∧ xs.length ≤ cap ∧ cap ≤ maxLen ∧ Seg .i64 w ao xs) (h3 : xs.length ≤ 10000) (hd : Digs 10 xs) (hz' : sv neg (val 10 xs) = z) :
    Calls Tryz.prog 92 #[.bool neg, v] w fun e w' => ∃ s a n c, e = .returned (.agg #[.bool s, .slice a n c]) ∧ RNum w' (.agg #[.bool s, .slice a n c]) z xs.length ∧ Below w.heap.size w w' := by
  obtain ⟨ao, cap, rfl, h1, h2, hs⟩ := hv
  subst hz'
  refine (rtrim_any neg ao xs.length cap xs w rfl h1 h2 h3 hs hd).mono ?_
  rintro e w' ⟨v, rfl, h, hb⟩
  obtain ⟨s, a, n, c, rfl⟩ := h.shape
  exact ⟨s, a, n, c, rfl, h, hb⟩

end Go.Proofs.YteefniagebcagabGreatDoor
