/- Two results laid into two variables, whichever is made first; it proves no statement of the seat. -/
import Derived.Test.YteefniagebcagaaGreatDoorRSplitJTells
import Derived.Test.YteefniagebcagaaGreatDoorJoin12Tells
namespace Go.Proofs.YteefniagebcagaaGreatDoor
open Go.RowKit

/-- What is known of the last world: numbers are what they were, and below w1 all is as it was. -/
def KeptN (w1 w W : World) : Prop := (∀ v z L, RNum w v z L → RNum W v z L) ∧ Below w1.heap.size w1 W
theorem two_new {w1 w : World} (hB : Below w1.heap.size w1 w) (s s' : Bool) (a a' : Option Addr) (n n' c c' : Nat) :
    Blk 39 ((w.alloc (.cells #[.bool s, .slice a n c] 39 (0, 0))).alloc (.cells #[.bool s', .slice a' n' c'] 39 (0, 0))) w.heap.size #[.bool s, .slice a n c] ∧
    Blk 39 ((w.alloc (.cells #[.bool s, .slice a n c] 39 (0, 0))).alloc (.cells #[.bool s', .slice a' n' c'] 39 (0, 0))) (w.heap.size + 1) #[.bool s', .slice a' n' c'] ∧
    KeptN w1 w ((w.alloc (.cells #[.bool s, .slice a n c] 39 (0, 0))).alloc (.cells #[.bool s', .slice a' n' c'] 39 (0, 0))) := by
  have h2 := Blk.new (w.alloc (.cells #[.bool s, .slice a n c] 39 (0, 0))) 39 #[.bool s', .slice a' n' c']
  simp only [World.size_alloc] at h2
  exact ⟨(Blk.new w _ _).alloc _, h2, fun v z L h => (h.below (below_new _ _)).below (below_new _ _), below_alloc _ (below_alloc _ hB _) _⟩
theorem one_old {w1 w : World} (hB : Below w1.heap.size w1 w) {p : Nat} {x : Bool} {y : Option Addr} {m d : Nat} (P : Blk 39 w p #[.bool x, .slice y m d]) (hp : w1.heap.size ≤ p) (s s' : Bool) (a a' : Option Addr) (n n' c c' : Nat) :
    Blk 39 (((w.setCell ⟨p, 0, none⟩ (.bool s)).setCell ⟨p, 1, none⟩ (.slice a n c)).alloc (.cells #[.bool s', .slice a' n' c'] 39 (0, 0))) p #[.bool s, .slice a n c] ∧
    Blk 39 (((w.setCell ⟨p, 0, none⟩ (.bool s)).setCell ⟨p, 1, none⟩ (.slice a n c)).alloc (.cells #[.bool s', .slice a' n' c'] 39 (0, 0))) w.heap.size #[.bool s', .slice a' n' c'] ∧
    KeptN w1 w (((w.setCell ⟨p, 0, none⟩ (.bool s)).setCell ⟨p, 1, none⟩ (.slice a n c)).alloc (.cells #[.bool s', .slice a' n' c'] 39 (0, 0))) := by
  have h1 : Blk 39 ((w.setCell ⟨p, 0, none⟩ (.bool s)).setCell ⟨p, 1, none⟩ (.slice a n c)) p #[.bool s, .slice a n c] := by
    have k := (P.set 0 (.bool s)).set 1 (.slice a n c); simpa using k
  have h2 := Blk.new ((w.setCell ⟨p, 0, none⟩ (.bool s)).setCell ⟨p, 1, none⟩ (.slice a n c)) 39 #[.bool s', .slice a' n' c']
  have e : ((w.setCell ⟨p, 0, none⟩ (.bool s)).setCell ⟨p, 1, none⟩ (.slice a n c)).heap.size = w.heap.size := by simp
  rw [e] at h2
  exact ⟨h1.alloc _, h2, fun v z L h => (h.store2 P _ _ _ _).below (below_new _ _), below_alloc _ (below_store2 hB hp _ _) _⟩
theorem two_old {w1 w : World} (hB : Below w1.heap.size w1 w) {p q : Nat} {x x' : Bool} {y y' : Option Addr} {m d m' d' : Nat} (P : Blk 39 w p #[.bool x, .slice y m d]) (Q : Blk 39 w q #[.bool x', .slice y' m' d']) (hpq : p ≠ q) (hp : w1.heap.size ≤ p) (hq : w1.heap.size ≤ q) (s s' : Bool) (a a' : Option Addr) (n n' c c' : Nat) :
    Blk 39 ((((w.setCell ⟨p, 0, none⟩ (.bool s)).setCell ⟨p, 1, none⟩ (.slice a n c)).setCell ⟨q, 0, none⟩ (.bool s')).setCell ⟨q, 1, none⟩ (.slice a' n' c')) p #[.bool s, .slice a n c] ∧
    Blk 39 ((((w.setCell ⟨p, 0, none⟩ (.bool s)).setCell ⟨p, 1, none⟩ (.slice a n c)).setCell ⟨q, 0, none⟩ (.bool s')).setCell ⟨q, 1, none⟩ (.slice a' n' c')) q #[.bool s', .slice a' n' c'] ∧
    KeptN w1 w ((((w.setCell ⟨p, 0, none⟩ (.bool s)).setCell ⟨p, 1, none⟩ (.slice a n c)).setCell ⟨q, 0, none⟩ (.bool s')).setCell ⟨q, 1, none⟩ (.slice a' n' c')) := by
  have h1 : Blk 39 ((w.setCell ⟨p, 0, none⟩ (.bool s)).setCell ⟨p, 1, none⟩ (.slice a n c)) p #[.bool s, .slice a n c] := by
    have k := (P.set 0 (.bool s)).set 1 (.slice a n c); simpa using k
  have Q1 : Blk 39 ((w.setCell ⟨p, 0, none⟩ (.bool s)).setCell ⟨p, 1, none⟩ (.slice a n c)) q #[.bool x', .slice y' m' d'] := (Q.other hpq _).other hpq _
  have h2 : Blk 39 ((((w.setCell ⟨p, 0, none⟩ (.bool s)).setCell ⟨p, 1, none⟩ (.slice a n c)).setCell ⟨q, 0, none⟩ (.bool s')).setCell ⟨q, 1, none⟩ (.slice a' n' c')) q #[.bool s', .slice a' n' c'] := by
    have k := (Q1.set 0 (.bool s')).set 1 (.slice a' n' c'); simpa using k
  exact ⟨(h1.other hpq.symm _).other hpq.symm _, h2, fun v z L h => (h.store2 P _ _ _ _).store2 Q1 _ _ _ _, below_store2 (below_store2 hB hp _ _) hq _ _⟩

theorem rnum_len {w : World} {s : Bool} {a : Option Addr} {n c L : Nat} {z : Int} (h : RNum w (.agg #[.bool s, .slice a n c]) z L) : 0 < n ↔ z ≠ 0 := by
  obtain ⟨neg, ds, ⟨ao, cap, he, h1, h2, h3, h4, h5, h6, h7, -⟩, hz, _⟩ := h
  cases he
  constructor
  · intro h0 hz0
    have hp := (h6.pos (B := 10) (List.ne_nil_of_length_pos h0)).resolve_right (by decide)
    have := congrArg Int.natAbs hz
    rw [sv_natAbs, hz0] at this
    simp at this
    omega
  · intro h0
    rcases Nat.eq_zero_or_pos ds.length with k | k
    · exact absurd (by rw [hz, List.eq_nil_of_length_eq_zero k, val_nil, sv_zero]) h0
    · exact k
theorem rnum_le {w : World} {s : Bool} {a : Option Addr} {n c L : Nat} {z : Int} (h : RNum w (.agg #[.bool s, .slice a n c]) z L) : n ≤ L := by
  obtain ⟨neg, ds, ⟨ao, cap, he, _⟩, _, hl⟩ := h
  cases he
  exact hl
theorem keepE {t : TypeId} {W0 w' : World} {b1 b2 : Nat} {p1 q1 p2 q2 : Value} (h1 : Blk t W0 b1 #[p1, q1]) (h2 : Blk t W0 b2 #[p2, q2]) (h : Below W0.heap.size W0 w') :
    (w'.cell? ⟨b1, 0, none⟩ = some p1 ∧ w'.cell? ⟨b1, 1, none⟩ = some q1 ∧ w'.cell? ⟨b2, 0, none⟩ = some p2 ∧ w'.cell? ⟨b2, 1, none⟩ = some q2) ∧ True ∧ Below W0.heap.size W0 w' := ⟨⟨(h1.stay h).two.1, (h1.stay h).two.2.1, (h2.stay h).two.1, (h2.stay h).two.2.1⟩, trivial, h⟩
end Go.Proofs.YteefniagebcagaaGreatDoor
