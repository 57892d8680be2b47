/- Contracts of suretyref01's TooBig by the number, suretyref02's Plus and Add; they prove no statement of the seat. -/
import Derived.Test.YtidpbdhhbeaijabR2JFolds
import Derived.Test.YtidpbdhhbeaijabRAddJFolds
import Derived.Test.YtidpbdhhbeaijabJoin14Folds
namespace Go.Proofs.Ytidpbdhhbeaijab
open Go.RowKit

theorem rbig_any (v : Value) (z : Int) (L : Nat) (r : Bool) (w : World) (hv : RNum w v z L) (hL : L ≤ 10000) (hr : decide (lim ≤ z.natAbs) = r) :
    Calls Try.prog 76 #[v] w fun e w' => e = .returned (.bool r) ∧ Below w.heap.size w w' := by
  subst hr
  obtain ⟨neg, ds, h1, h2, h3⟩ := hv
  rw [h2, sv_natAbs]
  exact toobig_any v neg ds w h1 (by omega)
theorem big_yes {z : Int} (h : ¬ z.natAbs < lim) : decide (lim ≤ z.natAbs) = true := decide_eq_true (Nat.not_lt.1 h)
theorem big_no {z : Int} (h : z.natAbs < lim) : decide (lim ≤ z.natAbs) = false := decide_eq_false (Nat.not_le.2 h)
theorem QRP.small {w : World} {x : Bool} {a : Option Addr} {n c : Nat} {y : Bool} {e : Option Addr} {m f N : Nat} {q : Rat} (h : QRP w x a n c y e m f q N) (h1 : q.num.natAbs < lim) (h2 : (q.den : Int).natAbs < lim) : QRP w x a n c y e m f q 400 := by
  obtain ⟨a1, l, a2, a3⟩ := h
  refine ⟨a1.small h1, l, a2.small ?_, a3⟩
  rcases a3 with k | k
  · rw [k]; exact h2
  · rw [k.1]; have := word_lim; simp; omega
theorem fdiv_le {a b : Int} (hb : 0 < b) (h : b ∣ a) : (a.fdiv b).natAbs ≤ a.natAbs := by
  have e := fdiv_of hb h
  have : a.natAbs = (a.fdiv b).natAbs * b.natAbs := by rw [← Int.natAbs_mul, e]
  rw [this]
  exact Nat.le_mul_of_pos_right _ (by omega)
theorem sum_small {x y : Rat} (h : aFits lim x y) : (x + y).num.natAbs < lim ∧ ((x + y).den : Int).natAbs < lim := by
  rw [(add_parts x y).1, (add_parts x y).2]
  exact ⟨Nat.lt_of_le_of_lt (fdiv_le (aH_pos x y) (Int.gcd_dvd_left ..)) h.2.2.1, h.2.2.2⟩

end Go.Proofs.Ytidpbdhhbeaijab
