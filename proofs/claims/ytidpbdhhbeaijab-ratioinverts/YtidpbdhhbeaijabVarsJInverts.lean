/- Numbers held by variables (boxed), and arith's calls with what they hold by one rule; they prove no statement of the seat. -/
import Derived.Test.YtidpbdhhbeaijabJoin8Inverts
import Derived.Test.YtidpbdhhbeaijabInts4JInverts
namespace Go.Proofs.Ytidpbdhhbeaijab
open Go.RowKit

/-- What a call holds of a number: the number, or 0 where it is too large. -/
def hz (z : Int) : Int := if z.natAbs < lim then z else 0
/-- The code that a call tells with it. -/
def ec (z : Int) : Int := if z.natAbs < lim then 0 else 11

theorem ec_range (z : Int) : 0 ≤ ec z ∧ ec z ≤ 11 := by unfold ec; split <;> omega
theorem ec_zero {z : Int} (h : ec z = 0) : z.natAbs < lim := by
  unfold ec at h
  split at h
  · assumption
  · cases h
theorem hz_of {z : Int} (h : z.natAbs < lim) : hz z = z := if_pos h
theorem ec_of {z : Int} (h : z.natAbs < lim) : ec z = 0 := if_pos h
theorem hz_ec {z : Int} (h : ec z = 0) : hz z = z := hz_of (ec_zero h)
theorem ec_not {z : Int} (h : ¬ z.natAbs < lim) : ec z = 11 := if_neg h

theorem Held.code {w : World} {v : Value} {c z : Int} (h : Held w v c z) : c = ec z ∧ AInt w v (hz z) := by
  rcases h with ⟨h1, h2, h3⟩ | ⟨h1, h2, h3⟩
  · rw [ec_of h2, hz_of h2]; exact ⟨h1, h3⟩
  · have h4 : ¬ z.natAbs < lim := Nat.not_lt.2 h2
    refine ⟨by rw [ec_not h4]; exact h1, ?_⟩
    have e : hz z = 0 := if_neg h4
    rw [e]; exact h3

theorem AInt.lt {w : World} {v : Value} {z : Int} (h : AInt w v z) : z.natAbs < lim := by
  obtain ⟨neg, xs, _, h2, h3⟩ := h
  rw [h2, sv_natAbs]; exact h3

/-- A variable that holds a number. -/
def VI (w : World) (b : Nat) (x : Bool) (a : Option Addr) (n c : Nat) (z : Int) : Prop :=
  Blk 25 w b #[.bool x, .slice a n c] ∧ AInt w (.agg #[.bool x, .slice a n c]) z

theorem VI.stay {w w' : World} {b : Nat} {x : Bool} {a : Option Addr} {n c : Nat} {z : Int} (h : VI w b x a n c z) (hb : Below w.heap.size w w') : VI w' b x a n c z := ⟨h.1.stay hb, h.2.below hb⟩
theorem VI.int {w : World} {b : Nat} {x : Bool} {a : Option Addr} {n c : Nat} {z : Int} (h : VI w b x a n c z) : AInt w (.agg #[.bool x, .slice a n c]) z := h.2
theorem VI.cells {w : World} {b : Nat} {x : Bool} {a : Option Addr} {n c : Nat} {z : Int} (h : VI w b x a n c z) : w.cell? ⟨b, 0, none⟩ = some (.bool x) ∧ w.cell? ⟨b, 1, none⟩ = some (.slice a n c) := ⟨h.1.two.1, h.1.two.2.1⟩
theorem VI.lt {w : World} {b : Nat} {x : Bool} {a : Option Addr} {n c : Nat} {z : Int} (h : VI w b x a n c z) : b < w.heap.size := h.1.lt
theorem below_new (w : World) (o : Obj) : Below w.heap.size w (w.alloc o) := (Below.refl _ _).alloc (Nat.le_refl _) _
theorem VI.new {w : World} {x : Bool} {a : Option Addr} {n c : Nat} {z : Int} (h : AInt w (.agg #[.bool x, .slice a n c]) z) : VI (w.alloc (.cells #[.bool x, .slice a n c] 25 (0, 0))) w.heap.size x a n c z :=
  ⟨Blk.new _ _ _, h.below (below_new _ _)⟩
theorem VI.over {w : World} {b : Nat} {x : Bool} {a : Option Addr} {n c : Nat} {z : Int} (h : VI w b x a n c z) {x' : Bool} {a' : Option Addr} {n' c' : Nat} {z' : Int} (h' : AInt w (.agg #[.bool x', .slice a' n' c']) z') :
    VI ((w.setCell ⟨b, 0, none⟩ (.bool x')).setCell ⟨b, 1, none⟩ (.slice a' n' c')) b x' a' n' c' z' :=
  ⟨by have k := (h.1.set 0 (.bool x')).set 1 (.slice a' n' c'); simpa using k, h'.store2 h.1 _ _ _ _⟩
theorem VI.other {w : World} {b d : Nat} {x y : Bool} {a e : Option Addr} {n c m f : Nat} {z u : Int} (h : VI w b x a n c z) (k : VI w d y e m f u) (hne : d ≠ b) (x' : Bool) (a' : Option Addr) (n' c' : Nat) :
    VI ((w.setCell ⟨d, 0, none⟩ (.bool x')).setCell ⟨d, 1, none⟩ (.slice a' n' c')) b x a n c z :=
  ⟨(h.1.other hne _).other hne _, h.2.store2 k.1 _ _ _ _⟩

theorem add_h (va vb : Value) (x y : Int) (w : World) (ha : AInt w va x) (hb : AInt w vb y) :
    Calls Try.prog 23 #[va, vb] w fun e w' => ∃ s a n c, e = .returned (.tuple #[.agg #[.bool s, .slice a n c], .int .i64 (ec (x + y))]) ∧ AInt w' (.agg #[.bool s, .slice a n c]) (hz (x + y)) ∧ Below w.heap.size w w' := by
  refine (add_any va vb x y w ha hb).mono ?_
  rintro e w' ⟨v, c, rfl, hh, hb⟩
  obtain ⟨rfl, h⟩ := hh.code
  obtain ⟨s, a, n, c, rfl⟩ := h.shape
  exact ⟨s, a, n, c, rfl, h, hb⟩
theorem mul_h (va vb : Value) (x y : Int) (w : World) (ha : AInt w va x) (hb : AInt w vb y) :
    Calls Try.prog 35 #[va, vb] w fun e w' => ∃ s a n c, e = .returned (.tuple #[.agg #[.bool s, .slice a n c], .int .i64 (ec (x * y))]) ∧ AInt w' (.agg #[.bool s, .slice a n c]) (hz (x * y)) ∧ Below w.heap.size w w' := by
  refine (mul_any va vb x y w ha hb).mono ?_
  rintro e w' ⟨v, c, rfl, hh, hb⟩
  obtain ⟨rfl, h⟩ := hh.code
  obtain ⟨s, a, n, c, rfl⟩ := h.shape
  exact ⟨s, a, n, c, rfl, h, hb⟩
theorem cmp_h (va vb : Value) (x y r : Int) (w : World) (ha : AInt w va x) (hb : AInt w vb y) (hr : (x - y).sign = r) :
    Calls Try.prog 26 #[va, vb] w fun e w' => e = .returned (.int .i64 r) ∧ Below w.heap.size w w' := by
  subst hr
  exact cmp_any va vb x y w ha hb
theorem sign_h (va : Value) (x : Int) (w : World) (ha : AInt w va x) :
    Calls Try.prog 40 #[va] w fun e w' => e = .returned (.int .i64 x.sign) ∧ Below w.heap.size w w' := by
  obtain ⟨neg, xs, h1, h2, h3⟩ := ha
  rw [h2]
  exact sign_any va neg xs w h1
end Go.Proofs.Ytidpbdhhbeaijab
