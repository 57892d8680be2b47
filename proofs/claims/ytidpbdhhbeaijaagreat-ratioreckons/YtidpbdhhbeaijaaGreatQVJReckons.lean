/- Words for rationals in the machine: what a struct of two numbers holds, and what stores leave; no statement of the seat is proved here. -/
import Derived.Test.YtidpbdhhbeaijaaGreatJoin0Reckons
import Derived.Test.YtidpbdhhbeaijaaGreatJoin9Reckons
import Derived.Test.YtidpbdhhbeaijaaGreatVarsDJReckons
namespace Go.Proofs.YtidpbdhhbeaijaaGreat
open Go.RowKit

/-- What stands below, as the program keeps it: 0 for 1. -/
def dz (q : Rat) : Int := if q.den = 1 then 0 else q.den
/-- The eight parts of a struct of two numbers: the first is q's upper, the second its lower number. -/
def QP (w : World) (x : Bool) (a : Option Addr) (n c : Nat) (y : Bool) (e : Option Addr) (m f : Nat) (q : Rat) : Prop :=
  AInt w (.agg #[.bool x, .slice a n c]) q.num ∧ AInt w (.agg #[.bool y, .slice e m f]) (dz q)
/-- The value v is q. -/
def QV (w : World) (v : Value) (q : Rat) : Prop := ∃ x a n c y e m f, v = .agg #[.bool x, .slice a n c, .bool y, .slice e m f] ∧ QP w x a n c y e m f q

section
variable {w w' : World} {x : Bool} {a : Option Addr} {n c : Nat} {y : Bool} {e : Option Addr} {m f : Nat} {q : Rat} {v : Value}
theorem QP.below (h : QP w x a n c y e m f q) (hb : Below w.heap.size w w') : QP w' x a n c y e m f q := ⟨h.1.below hb, h.2.below hb⟩
theorem QP.keepI (h : QP w x a n c y e m f q) (hk : KeepI w w') : QP w' x a n c y e m f q := ⟨h.1.keepI hk, h.2.keepI hk⟩
theorem QP.val (h : QP w x a n c y e m f q) : QV w (.agg #[.bool x, .slice a n c, .bool y, .slice e m f]) q := ⟨x, a, n, c, y, e, m, f, rfl, h⟩
theorem QV.below (h : QV w v q) (hb : Below w.heap.size w w') : QV w' v q := by
  obtain ⟨x, a, n, c, y, e, m, f, rfl, h⟩ := h
  exact (h.below hb).val
theorem QP.whole {z : Int} (h : AInt w (.agg #[.bool x, .slice a n c]) z) : QP w x a n c false none 0 0 (z : Rat) := ⟨h, AInt.zero w⟩
theorem QP.zero : QP w false none 0 0 false none 0 0 0 := ⟨AInt.zero w, AInt.zero w⟩
end
theorem dz_one {q : Rat} (h : q.den = 1) : dz q = 0 := if_pos h
theorem dz_not {q : Rat} (h : q.den ≠ 1) : dz q = q.den := if_neg h
theorem dz_sign (q : Rat) : (dz q).sign = 0 ↔ q.den = 1 := by
  unfold dz
  split
  · rename_i h; simp [h]
  · rename_i h; rw [Int.sign_eq_zero_iff_zero]; have := q.den_nz; constructor <;> (intro; omega)

theorem Blk.four {t : TypeId} {w : World} {b : Nat} {p q r s : Value} (h : Blk t w b #[p, q, r, s]) :
    w.cell? ⟨b, 0, none⟩ = some p ∧ w.cell? ⟨b, 1, none⟩ = some q ∧ w.cell? ⟨b, 2, none⟩ = some r ∧ w.cell? ⟨b, 3, none⟩ = some s :=
  ⟨h.cell 0, h.cell 1, h.cell 2, h.cell 3⟩
theorem Blk.frozen4 {t : TypeId} {w : World} {b : Nat} {p q r s : Value} (h : Blk t w b #[p, q, r, s]) :
    w.frozen? ⟨b, 0, none⟩ = false ∧ w.frozen? ⟨b, 1, none⟩ = false ∧ w.frozen? ⟨b, 2, none⟩ = false ∧ w.frozen? ⟨b, 3, none⟩ = false :=
  ⟨h.frozen 0, h.frozen 1, h.frozen 2, h.frozen 3⟩
theorem noI_bool (x : Bool) : NoI (.bool x) := fun _ _ h => by cases h
theorem noI_slice (a : Option Addr) (n c : Nat) : NoI (.slice a n c) := fun _ _ h => by cases h
theorem keepI_set {t : TypeId} {w : World} {b : Nat} {cs : Array Value} (h : Blk t w b cs) (hN : ∀ u ∈ cs.toList, NoI u) (i : Nat) (v : Value) : KeepI w (w.setCell ⟨b, i, none⟩ v) := by
  intro p k x hp
  by_cases hb : p.block = b
  · exfalso
    obtain ⟨pb, po, pm⟩ := p
    simp only at hb
    subst hb
    have h1 : pm = none ∧ cs[po]? = some (Value.int k x) := by simpa [World.cell?, show w.heap[pb]? = _ from h] using hp
    exact hN _ (by rw [Array.mem_toList_iff]; exact Array.mem_of_getElem? h1.2) k x rfl
  · rw [World.cell?_of_block (w := w) (heap_setCell_other w ⟨b, i, none⟩ p.block v hb)]
    exact hp
/-- A struct variable of two numbers, written whole. -/
theorem keepI_four {t : TypeId} {w : World} {b : Nat} {p r : Bool} {q s : Value} (hq : NoI q) (hs : NoI s) (h : Blk t w b #[.bool p, q, .bool r, s]) (x : Bool) (a : Option Addr) (n c : Nat) (y : Bool) (e : Option Addr) (m f : Nat) :
    KeepI w ((((w.setCell ⟨b, 0, none⟩ (.bool x)).setCell ⟨b, 1, none⟩ (.slice a n c)).setCell ⟨b, 2, none⟩ (.bool y)).setCell ⟨b, 3, none⟩ (.slice e m f)) := by
  have h0 := h.set 0 (.bool x)
  have h1 := h0.set 1 (.slice a n c)
  have h2 := h1.set 2 (.bool y)
  simp at h0 h1 h2
  have N : ∀ {u1 u2 u3 u4 : Value}, NoI u1 → NoI u2 → NoI u3 → NoI u4 → ∀ u ∈ (#[u1, u2, u3, u4] : Array Value).toList, NoI u := by
    intro u1 u2 u3 u4 n1 n2 n3 n4 u hu
    simp at hu
    rcases hu with rfl | rfl | rfl | rfl <;> assumption
  exact (((keepI_set h (N (noI_bool _) hq (noI_bool _) hs) _ _).trans (keepI_set h0 (N (noI_bool _) hq (noI_bool _) hs) _ _)).trans (keepI_set h1 (N (noI_bool _) (noI_slice _ _ _) (noI_bool _) hs) _ _)).trans (keepI_set h2 (N (noI_bool _) (noI_slice _ _ _) (noI_bool _) hs) _ _)
theorem Blk.over4 {t : TypeId} {w : World} {b : Nat} {p q r s : Value} (h : Blk t w b #[p, q, r, s]) (p' q' r' s' : Value) :
    Blk t ((((w.setCell ⟨b, 0, none⟩ p').setCell ⟨b, 1, none⟩ q').setCell ⟨b, 2, none⟩ r').setCell ⟨b, 3, none⟩ s') b #[p', q', r', s'] := by
  have k := (((h.set 0 p').set 1 q').set 2 r').set 3 s'; simpa using k
theorem Blk.other4 {t : TypeId} {w : World} {b d : Nat} {cs : Array Value} (h : Blk t w b cs) (hne : d ≠ b) (p' q' r' s' : Value) :
    Blk t ((((w.setCell ⟨d, 0, none⟩ p').setCell ⟨d, 1, none⟩ q').setCell ⟨d, 2, none⟩ r').setCell ⟨d, 3, none⟩ s') b cs :=
  (((h.other hne _).other hne _).other hne _).other hne _
theorem below_store4 {w w1 : World} {B b : Nat} (h : Below B w w1) (hb : B ≤ b) (p q r s : Value) : Below B w ((((w1.setCell ⟨b, 0, none⟩ p).setCell ⟨b, 1, none⟩ q).setCell ⟨b, 2, none⟩ r).setCell ⟨b, 3, none⟩ s) :=
  (((h.setCell (p := ⟨b, 0, none⟩) hb p).setCell (p := ⟨b, 1, none⟩) hb q).setCell (p := ⟨b, 2, none⟩) hb r).setCell (p := ⟨b, 3, none⟩) hb s
end Go.Proofs.YtidpbdhhbeaijaaGreat
