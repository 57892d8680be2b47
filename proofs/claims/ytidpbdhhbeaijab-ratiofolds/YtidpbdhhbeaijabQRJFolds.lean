/- Words for the document's rationals (suretyref02.Rat), and contracts of its one, Low; no statement of the seat is proved here. -/
import Derived.Test.YtidpbdhhbeaijabJoin13Folds
import Derived.Test.YtidpbdhhbeaijabRFromJFolds
import Derived.Test.YtidpbdhhbeaijabRInts1JFolds
import Derived.Test.YtidpbdhhbeaijabRTwoJFolds
namespace Go.Proofs.Ytidpbdhhbeaijab
open Go.RowKit

/-- The eight parts of a struct of two numbers: q's upper number; q's lower one, or none for 1. -/
def QRP (w : World) (x : Bool) (a : Option Addr) (n c : Nat) (y : Bool) (e : Option Addr) (m f : Nat) (q : Rat) (N : Nat) : Prop :=
  RNum w (.agg #[.bool x, .slice a n c]) q.num N ∧ ∃ l : Int, RNum w (.agg #[.bool y, .slice e m f]) l N ∧ (l = q.den ∨ (l = 0 ∧ q.den = 1))
def QRV (w : World) (v : Value) (q : Rat) (N : Nat) : Prop := ∃ x a n c y e m f, v = .agg #[.bool x, .slice a n c, .bool y, .slice e m f] ∧ QRP w x a n c y e m f q N
section
variable {w w' : World} {x : Bool} {a : Option Addr} {n c : Nat} {y : Bool} {e : Option Addr} {m f N : Nat} {q : Rat} {v : Value}
theorem QRP.keepI (h : QRP w x a n c y e m f q N) (hk : KeepI w w') : QRP w' x a n c y e m f q N := by
  obtain ⟨h1, l, h2, h3⟩ := h
  exact ⟨h1.keepI hk, l, h2.keepI hk, h3⟩
theorem QRP.below (h : QRP w x a n c y e m f q N) (hb : Below w.heap.size w w') : QRP w' x a n c y e m f q N := h.keepI (KeepI.below hb)
theorem QRP.val (h : QRP w x a n c y e m f q N) : QRV w (.agg #[.bool x, .slice a n c, .bool y, .slice e m f]) q N := ⟨x, a, n, c, y, e, m, f, rfl, h⟩
theorem QRV.keepI (h : QRV w v q N) (hk : KeepI w w') : QRV w' v q N := by
  obtain ⟨x, a, n, c, y, e, m, f, rfl, h⟩ := h
  exact (h.keepI hk).val
theorem QRP.whole {z : Int} (h : RNum w (.agg #[.bool x, .slice a n c]) z N) : QRP w x a n c false none 0 0 (z : Rat) N := ⟨h, 0, RNum.zero _ _, Or.inr ⟨rfl, rfl⟩⟩
theorem QRP.zero : QRP w false none 0 0 false none 0 0 0 N := ⟨RNum.zero _ _, 0, RNum.zero _ _, Or.inr ⟨rfl, rfl⟩⟩
end
def RRT (q : Rat) (N : Nat) : Value → World → Prop := fun u w => QRV w u q N
theorem mo_rrt {q : Rat} {N : Nat} : Mono (RRT q N) := fun _ _ _ hk h => QRV.keepI h hk
/-- A small number has few digits. -/
theorem RNum.small {w : World} {v : Value} {z : Int} {L : Nat} (h : RNum w v z L) (hz' : z.natAbs < lim) : RNum w v z 400 := by
  obtain ⟨neg, ds, h1, h2, h3⟩ := h
  refine ⟨neg, ds, h1, h2, ?_⟩
  obtain ⟨_, _, _, _, _, _, _, _, hn, _⟩ := h1
  rcases Nat.lt_or_ge 309 ds.length with k | k
  · have h4 := toobig_long hn k
    rw [h2, sv_natAbs] at hz'
    omega
  · omega
theorem rCmp_s (va vb : Value) (x y r : Int) (L M : Nat) (w : World) (ha : RNum w va x L) (hb : RNum w vb y M) (hL : L ≤ 100000) (hM : M ≤ 100000) (hr : (x - y).sign = r) :
    Calls Try.prog 57 #[va, vb] w fun e w' => e = .returned (.int .i64 r) ∧ Below w.heap.size w w' := by
  subst hr
  exact rCmp_any va vb x y L M w ha hb hL hM

set_option maxHeartbeats 1000000 in
theorem one_any (w : World) :
    Calls Try.prog 58 #[] w fun e w' => ∃ s a n c, e = .returned (.agg #[.bool s, .slice a n c]) ∧ RNum w' (.agg #[.bool s, .slice a n c]) 1 20 ∧ Below w.heap.size w w' := by
  have R0 := Blk.new w 30 #[.bool false, .slice none 0 0]
  have hbw := below_new w (.cells #[.bool false, .slice none 0 0] 30 (0, 0))
  go_enter Try.func58, Try.ntmps58
  go_wp2_with fail
  refine (rfrom_any 1 _ (by decide) (by decide)).mono ?_
  rintro e w1 ⟨s, a, n, c, rfl, h1, hb⟩
  have R1 := R0.stay hb
  obtain ⟨r0, r1, f0, f1⟩ := R1.two
  go_wp2
  refine bodyPost_ret (v := .agg #[.bool s, .slice a n c]) (by simp [results, Try.results58, go_sem, r0, r1]) rfl ?_
  exact ⟨s, a, n, c, rfl, h1.store2 R1 _ _ _ _, below_store2 (hbw.step hb (Nat.le_refl _)) (Nat.le_refl _) _ _⟩
end Go.Proofs.Ytidpbdhhbeaijab
