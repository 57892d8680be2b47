/- Joined: LinFw, SumsL, LinVl, LinTm: words and contracts; no statement of the seat is proved here. -/
import Derived.Test.YteefniagebcagaaGreatDoorJoin23Rows
import Derived.Test.YteefniagebcagaaGreatDoorJoin21Rows
import Derived.Deep.RegionHeld3
/- Contract of suretylaw03's few; they prove no statement of the seat. -/
namespace Go.Proofs.YteefniagebcagaaGreatDoor
open Go.RowKit
set_option linter.unusedVariables false

end Go.Proofs.YteefniagebcagaaGreatDoor
/- Two lists that grow side by side: the law of an append in a region that draws its order; no statement of the seat is proved here. -/
namespace Go.Proofs.YteefniagebcagaaGreatDoor
open Go.RowKit

/-- What an append to v leaves. -/
def AppK (e : TypeId) (base : Nat) (v : Value) (n : Nat) (xs : List Value) (w w' : World) : Prop :=
  (∀ b, b < w.heap.size → v.ownBlock ≠ some b → w'.heap[b]? = w.heap[b]?) ∧ KeepI w w' ∧ Below base w w' ∧ Lst e base w v n xs ∧ Lst e base w' v n xs

theorem Lst.blk {e t : TypeId} {base : Nat} {w : World} {v : Value} {n : Nat} {xs : List Value} (h : Lst e base w v n xs) {b : Nat} {cs : Array Value} (hb : Blk t w b cs) (he : e ≠ t) : v.ownBlock ≠ some b := by
  intro hv
  rcases h.2 with ⟨rfl, _⟩ | ⟨g, cap, cur, rfl, _, hg, _⟩
  · cases hv
  · have e1 : g = b := by simpa [Value.ownBlock] using hv
    subst e1
    have hb' : w.heap[g]? = some (.cells cs t (0, 0)) := hb
    rw [hg] at hb'
    injection hb' with hb'
    injection hb' with _ h2
    exact he h2
theorem Blk.app {e t : TypeId} {base : Nat} {v : Value} {n : Nat} {xs : List Value} {w w' : World} {b : Nat} {cs : Array Value} (hb : Blk t w b cs) (h : AppK e base v n xs w w') (hne : v.ownBlock ≠ some b) : Blk t w' b cs := (h.1 b hb.lt hne).trans hb
theorem Lst.app {e t : TypeId} {base : Nat} {v v2 : Value} {n n2 : Nat} {xs xs2 : List Value} {w w' : World} (h2 : Lst t base w v2 n2 xs2) (h : AppK e base v n xs w w') (he : t ≠ e) : Lst t base w' v2 n2 xs2 :=
  h2.stay fun b hb => h.1 b (h2.lt b hb).2 (fun e' => h2.apart h.2.2.2.1 he b hb e'.symm)

/-- The cells xs are suretyref01.Nums. -/
def ElsR (w : World) (xs : List Value) (zs : List Int) : Prop :=
  ∀ i, i < zs.length → ∃ s a n c, xs[i * 2]? = some (.bool s) ∧ xs[i * 2 + 1]? = some (.slice a n c) ∧ RNum w (.agg #[.bool s, .slice a n c]) (zs.getD i 0) 400
theorem ElsR.nil (w : World) : ElsR w [] [] := fun i hi => by simp at hi
theorem ElsR.keep {w w' : World} {xs : List Value} {zs : List Int} (h : ElsR w xs zs) (hk : KeepI w w') : ElsR w' xs zs := by
  intro i hi
  obtain ⟨s, a, n, c, h1, h2, h3⟩ := h i hi
  exact ⟨s, a, n, c, h1, h2, h3.keepI hk⟩
/-- What stands while the two lists grow. -/
structure SumS (w1 : World) (k : Nat) (vA vX : Value) (xsA xsX : List Value) (zs : List Int) (z : Int) (b6 b7 : Nat) (x : Bool) (a : Option Addr) (m c : Nat) (y : Bool) (d : Option Addr) (m' f : Nat) (w' : World) : Prop where
  blkA : Blk 31 w' b6 #[.bool x, .slice a m c]
  blkX : Blk 39 w' b7 #[.bool y, .slice d m' f]
  lstA : Lst 31 w1.heap.size w' vA k xsA
  lstX : Lst 39 w1.heap.size w' vX k xsX
  els : Els w' xsA zs
  elsR : ElsR w' xsX zs
  numA : AInt w' (.agg #[.bool x, .slice a m c]) z
  numX : RNum w' (.agg #[.bool y, .slice d m' f]) z 400
  bel : Below w1.heap.size w1 w'
  neA : vA.ownBlock ≠ some b6
  neX : vX.ownBlock ≠ some b7
section
variable {w1 : World} {k : Nat} {vA vX : Value} {xsA xsX : List Value} {zs : List Int} {z : Int} {b6 b7 : Nat} {x : Bool} {a : Option Addr} {m c : Nat} {y : Bool} {d : Option Addr} {m' f : Nat} {w w' : World}
theorem SumS.below (h : SumS w1 k vA vX xsA xsX zs z b6 b7 x a m c y d m' f w) (hb : Below w.heap.size w w') : SumS w1 k vA vX xsA xsX zs z b6 b7 x a m c y d m' f w' :=
  ⟨h.blkA.stay hb, h.blkX.stay hb, h.lstA.below hb, h.lstX.below hb, h.els.keep (KeepI.below hb), h.elsR.keep (KeepI.below hb), h.numA.below hb, h.numX.below hb, h.bel.step hb (Nat.le_refl _), h.neA, h.neX⟩
theorem SumS.alloc (h : SumS w1 k vA vX xsA xsX zs z b6 b7 x a m c y d m' f w) (o : Obj) : SumS w1 k vA vX xsA xsX zs z b6 b7 x a m c y d m' f (w.alloc o) := h.below (below_new w o)
theorem SumS.drew (h : SumS w1 k vA vX xsA xsX zs z b6 b7 x a m c y d m' f w) : SumS w1 k vA vX xsA xsX zs z b6 b7 x a m c y d m' f w.drew := h.below (Below.refl _ _).drew
theorem SumS.all (h : SumS w1 k vA vX xsA xsX zs z b6 b7 x a m c y d m' f w) :
    (w.cell? ⟨b6, 0, none⟩ = some (.bool x) ∧ w.cell? ⟨b6, 1, none⟩ = some (.slice a m c) ∧ w.cell? ⟨b7, 0, none⟩ = some (.bool y) ∧ w.cell? ⟨b7, 1, none⟩ = some (.slice d m' f)) ∧ SumS w1 k vA vX xsA xsX zs z b6 b7 x a m c y d m' f w :=
  ⟨⟨h.blkA.two.1, h.blkA.two.2.1, h.blkX.two.1, h.blkX.two.2.1⟩, h⟩
end
end Go.Proofs.YteefniagebcagaaGreatDoor
/- Contract of suretylaw03's values; it proves no statement of the seat. -/
namespace Go.Proofs.YteefniagebcagaaGreatDoor
open Go.RowKit
set_option linter.unusedVariables false

/-- Texts in a row. -/
def SArr (w : World) (ao : Option Addr) (ss : List ByteArray) : Prop := ss = [] ∨ ∃ (g o : Nat), ao = some ⟨g, o, none⟩ ∧ ∀ i, i < ss.length → w.cell? ⟨g, o + i, none⟩ = some (.string (ss.getD i ⟨#[]⟩))
theorem SArr.below {w w' : World} {ao : Option Addr} {ss : List ByteArray} (h : SArr w ao ss) (hb : Below w.heap.size w w') : SArr w' ao ss := by
  rcases h with h | ⟨g, o, h1, h2⟩
  · exact Or.inl h
  · exact Or.inr ⟨g, o, h1, fun i hi => (hb.cell (World.block_lt_of_cell? w _ (h2 i hi))).trans (h2 i hi)⟩
theorem SArr.at {w : World} {ao : Option Addr} {ss : List ByteArray} (h : SArr w ao ss) (i : Nat) (hi : i < ss.length) : ∃ g o, ao = some ⟨g, o, none⟩ ∧ w.cell? ⟨g, o + i, none⟩ = some (.string (ss.getD i ⟨#[]⟩)) := by
  rcases h with h | ⟨g, o, h1, h2⟩
  · rw [h] at hi; simp at hi
  · exact ⟨g, o, h1, h2 i hi⟩
end Go.Proofs.YteefniagebcagaaGreatDoor
/- Contract of suretylaw03's term; they prove no statement of the seat. -/
namespace Go.Proofs.YteefniagebcagaaGreatDoor
open Go.RowKit
set_option linter.unusedVariables false

/-- A plain part as a term: its parts, its number. -/
def xP (v z : Int) : List (Nat × Int) := if v < 0 ∨ z = 0 then [] else [(v.toNat, z)]
def xR (v z : Int) : Int := if v < 0 then z else 0
/-- What plain parts come to, behind a term. -/
def Tm : List (Int × ByteArray) → List (Nat × Int) → Int → List (Nat × Int) → Int → Prop
  | [], a, r, b, s => b = a ∧ s = r
  | p :: ms, a, r, b, s => pcd p.2 = 0 ∧ tAddOk a (xP p.1 (pzd p.2)) r (xR p.1 (pzd p.2)) ∧ Tm ms (addP a (xP p.1 (pzd p.2))) (r + xR p.1 (pzd p.2)) b s
theorem Tm.drop {ms : List (Int × ByteArray)} {k : Nat} {v : Int} {T : ByteArray} (hk : k < ms.length) (hp : ms.getD k (0, ⟨#[]⟩) = (v, T)) (a : List (Nat × Int)) (r : Int) (b : List (Nat × Int)) (s : Int) :
    Tm (ms.drop k) a r b s ↔ pcd T = 0 ∧ tAddOk a (xP v (pzd T)) r (xR v (pzd T)) ∧ Tm (ms.drop (k + 1)) (addP a (xP v (pzd T))) (r + xR v (pzd T)) b s := by
  have e : ms[k] = (v, T) := by rw [List.getD_eq_getElem?_getD, List.getElem?_eq_getElem hk] at hp; exact hp
  rw [List.drop_eq_getElem_cons hk, e, Tm]
end Go.Proofs.YteefniagebcagaaGreatDoor
