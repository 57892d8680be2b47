/- Two lists that grow side by side: the law of an append in a region that draws its order; no statement of the seat is proved here. -/
import Derived.Test.YteefniagebcagaaGreatDoorJoin21Values
namespace Go.Proofs.YteefniagebcagaaGreatDoor
open Go.RowKit

theorem Tryz.underlying54 : Tryz.prog.underlying 54 = some (.slice 31) := by kernel_rfl
theorem Tryz.underlying55 : Tryz.prog.underlying 55 = some (.slice 39) := by kernel_rfl
theorem Tryz.info31 : (Tryz.prog.info? 31).map (fun i => (i.zero, i.size, i.bytes)) = some (some (.agg #[.bool false, .slice none 0 0]), 2, 32) := by kernel_rfl
theorem Tryz.info39 : (Tryz.prog.info? 39).map (fun i => (i.zero, i.size, i.bytes)) = some (some (.agg #[.bool false, .slice none 0 0]), 2, 32) := by kernel_rfl

/-- What an append to v leaves. -/
def AppK (e : TypeId) (base : Nat) (v : Value) (n : Nat) (xs : List Value) (w w' : World) : Prop :=
  (∀ b, b < w.heap.size → v.ownBlock ≠ some b → w'.heap[b]? = w.heap[b]?) ∧ KeepI w w' ∧ Below base w w' ∧ Lst e base w v n xs ∧ Lst e base w' v n xs

theorem step_append_two {P : Program} {w : World} {ops : Array Oper} {o : Oper} {a : Act} {K : Act → World → Prop} {Q : Exit → Act → World → Prop} {E : Prop} (hgd : o.guard = none) (s x : Operand) (t : TypeId)
    (ho : o.op = .call { callee := .builtin .append, args := #[s, x], argTypes := #[t, t] })
    (base : Nat) (e : TypeId) (bytes : Nat) (h1 : P.underlying t = some (.slice e)) (h2 : (P.info? e).map (fun i => (i.zero, i.size, i.bytes)) = some (some (.agg #[.bool false, .slice none 0 0]), 2, bytes)) (hby : bytes ≤ 64)
    (v : Value) (n : Nat) (xs : List Value) (hs : a.eval s = v) (hown : Lst e base w v n xs) (b0 : Bool) (a1 : Option Addr) (n1 c1 : Nat) (g : Nat) (hx : a.eval x = .slice (some ⟨g, 0, none⟩) 1 1)
    (hg : Blk e w g #[.bool b0, .slice a1 n1 c1]) (hn : n ≤ 1000) (hbase : base ≤ w.heap.size)
    (h : ∀ v' w', Lst e base w' v' (n + 1) (xs ++ [.bool b0, .slice a1 n1 c1]) → AppK e base v n xs w w' → K (a.put o.dst v') w') :
    if Region.wanted o (yielded ops a.tmps) = true then Oper.wp P o a w K Q else E := by
  have hw : Region.wanted o (yielded ops a.tmps) = true := by simp [Region.wanted, hgd]
  rw [if_pos hw]
  obtain ⟨i, hi, hz0, hz1, hz2⟩ := info_parts h2
  obtain ⟨c0, c1', _, _⟩ := hg.two
  have N0 : NoI (.bool b0) := fun _ _ hh => by cases hh
  have N1 : ∀ (p : Option Addr) (q r : Nat), NoI (.slice p q r) := fun _ _ _ _ _ hh => by cases hh
  have NF : NoI (.bool false) := fun _ _ hh => by cases hh
  obtain ⟨v', w', hr, k1, k2, k3, k4⟩ := run_append_two (P := P) w base t o.type e i _ h1 hi hz0 hz1 (by omega) rfl
    (by intro u hu; simp [Value.cells] at hu; rcases hu with rfl | rfl; exact NF; exact N1 _ _ _)
    v n xs hown ⟨g, 0, none⟩ 1 (.bool b0) (.slice a1 n1 c1) c0 c1' rfl rfl N0 (N1 _ _ _) hn hbase
  have hblk : ∀ b, b < w.heap.size → v.ownBlock ≠ some b → w'.heap[b]? = w.heap[b]? := fun b hb1 hb2 => k2.block b hb1 (fun e => hb2 e.symm)
  unfold Oper.wp execOp
  simp only [ho, resolve, invoke, builtin, Sem.run_bind, Sem.run_pure, Result.andThen_ok, List.map_toArray, List.map_cons, List.map_nil, hs, hx, hr]
  refine h v' w' k1 ⟨hblk, k3, ?_, hown, k4⟩
  refine ⟨k2.os, k2.tape, k2.output, k2.size, fun b hb1 => hblk b (by omega) (fun e => ?_)⟩
  have := (hown.lt b e).1
  omega

theorem Lst.blk {e t : TypeId} {base : Nat} {w : World} {v : Value} {n : Nat} {xs : List Value} (h : Lst e base w v n xs) {b : Nat} {cs : Array Value} (hb : Blk t w b cs) (he : e ≠ t) : v.ownBlock ≠ some b := by
  intro hv
  rcases h.2 with ⟨rfl, _⟩ | ⟨g, cap, cur, rfl, _, hg, _⟩
  · cases hv
  · have e1 : g = b := by simpa [Value.ownBlock] using hv
    subst e1
    have hb' : w.heap[g]? = some (.cells cs t (0, 0)) := hb
    rw [hg] at hb'
    injection hb' with hb'
    injection hb' with _ h2
    exact he h2
theorem Blk.app {e t : TypeId} {base : Nat} {v : Value} {n : Nat} {xs : List Value} {w w' : World} {b : Nat} {cs : Array Value} (hb : Blk t w b cs) (h : AppK e base v n xs w w') (hne : v.ownBlock ≠ some b) : Blk t w' b cs := (h.1 b hb.lt hne).trans hb
theorem Lst.app {e t : TypeId} {base : Nat} {v v2 : Value} {n n2 : Nat} {xs xs2 : List Value} {w w' : World} (h2 : Lst t base w v2 n2 xs2) (h : AppK e base v n xs w w') (he : t ≠ e) : Lst t base w' v2 n2 xs2 :=
  h2.stay fun b hb => h.1 b (h2.lt b hb).2 (fun e' => h2.apart h.2.2.2.1 he b hb e'.symm)

/-- The cells xs are suretyref01.Nums. -/
def ElsR (w : World) (xs : List Value) (zs : List Int) : Prop :=
  ∀ i, i < zs.length → ∃ s a n c, xs[i * 2]? = some (.bool s) ∧ xs[i * 2 + 1]? = some (.slice a n c) ∧ RNum w (.agg #[.bool s, .slice a n c]) (zs.getD i 0) 400
theorem ElsR.nil (w : World) : ElsR w [] [] := fun i hi => by simp at hi
theorem ElsR.keep {w w' : World} {xs : List Value} {zs : List Int} (h : ElsR w xs zs) (hk : KeepI w w') : ElsR w' xs zs := by
  intro i hi
  obtain ⟨s, a, n, c, h1, h2, h3⟩ := h i hi
  exact ⟨s, a, n, c, h1, h2, h3.keepI hk⟩
theorem ElsR.push {w : World} {xs : List Value} {zs : List Int} (h : ElsR w xs zs) (hl : xs.length = zs.length * 2) {s : Bool} {a : Option Addr} {n c : Nat} {z : Int} (hz : RNum w (.agg #[.bool s, .slice a n c]) z 400) : ElsR w (xs ++ [.bool s, .slice a n c]) (zs ++ [z]) := by
  intro i hi
  rw [List.length_append, List.length_singleton] at hi
  rcases Nat.lt_or_ge i zs.length with k | k
  · obtain ⟨s', a', n', c', h1, h2, h3⟩ := h i k
    refine ⟨s', a', n', c', ?_, ?_, ?_⟩
    · rw [List.getElem?_append_left (by omega)]; exact h1
    · rw [List.getElem?_append_left (by omega)]; exact h2
    · rw [List.getD_eq_getElem?_getD, List.getElem?_append_left k, ← List.getD_eq_getElem?_getD]; exact h3
  · have e : i = zs.length := by omega
    subst e
    refine ⟨s, a, n, c, ?_, ?_, ?_⟩
    · rw [List.getElem?_append_right (by omega), hl, Nat.sub_self]; rfl
    · rw [List.getElem?_append_right (by omega), hl, show zs.length * 2 + 1 - zs.length * 2 = 1 by omega]; rfl
    · rw [List.getD_eq_getElem?_getD, List.getElem?_append_right (Nat.le_refl _), Nat.sub_self]; exact hz
theorem Lst.arrR {e : TypeId} {base : Nat} {w : World} {v : Value} {n : Nat} {xs : List Value} {zs : List Int} (h : Lst e base w v n xs) (he : ElsR w xs zs) (hl : zs.length = n) : ∃ ao cap, v = .slice ao n cap ∧ ArrR w ao zs := by
  rcases h.2 with ⟨rfl, h0⟩ | ⟨g, cap, cur, rfl, h3, h4, h5, h6, _⟩
  · exact ⟨none, 0, by rw [h0], Or.inl (List.eq_nil_of_length_eq_zero (hl.trans h0))⟩
  · refine ⟨_, cap, rfl, ?_⟩
    rcases h.cells with k | ⟨g', cap', e1, _, _, _, _, h7⟩
    · exact Or.inl (List.eq_nil_of_length_eq_zero (hl.trans k))
    · cases e1
      refine Or.inr ⟨g, 0, rfl, fun i hi => ?_⟩
      obtain ⟨s, a, m, c, k1, k2, k3⟩ := he i hi
      exact ⟨s, a, m, c, by rw [Nat.zero_add]; exact h7 _ _ k1, by rw [Nat.zero_add]; exact h7 _ _ k2, k3⟩
theorem Lst.arrI {e : TypeId} {base : Nat} {w : World} {v : Value} {n : Nat} {xs : List Value} {zs : List Int} (h : Lst e base w v n xs) (he : Els w xs zs) (hl : zs.length = n) : ∃ ao cap, v = .slice ao n cap ∧ Arr w ao zs := by
  rcases h.arr he hl with ⟨rfl, h0⟩ | ⟨g, cap, rfl, _, _, hA⟩
  · exact ⟨none, 0, by rw [h0], Or.inl (List.eq_nil_of_length_eq_zero (hl.trans h0))⟩
  · exact ⟨_, cap, rfl, hA⟩

/-- What stands while the two lists grow. -/
structure SumS (w1 : World) (k : Nat) (vA vX : Value) (xsA xsX : List Value) (zs : List Int) (z : Int) (b6 b7 : Nat) (x : Bool) (a : Option Addr) (m c : Nat) (y : Bool) (d : Option Addr) (m' f : Nat) (w' : World) : Prop where
  blkA : Blk 31 w' b6 #[.bool x, .slice a m c]
  blkX : Blk 39 w' b7 #[.bool y, .slice d m' f]
  lstA : Lst 31 w1.heap.size w' vA k xsA
  lstX : Lst 39 w1.heap.size w' vX k xsX
  els : Els w' xsA zs
  elsR : ElsR w' xsX zs
  numA : AInt w' (.agg #[.bool x, .slice a m c]) z
  numX : RNum w' (.agg #[.bool y, .slice d m' f]) z 400
  bel : Below w1.heap.size w1 w'
  neA : vA.ownBlock ≠ some b6
  neX : vX.ownBlock ≠ some b7
section
variable {w1 : World} {k : Nat} {vA vX : Value} {xsA xsX : List Value} {zs : List Int} {z : Int} {b6 b7 : Nat} {x : Bool} {a : Option Addr} {m c : Nat} {y : Bool} {d : Option Addr} {m' f : Nat} {w w' : World}
theorem SumS.below (h : SumS w1 k vA vX xsA xsX zs z b6 b7 x a m c y d m' f w) (hb : Below w.heap.size w w') : SumS w1 k vA vX xsA xsX zs z b6 b7 x a m c y d m' f w' :=
  ⟨h.blkA.stay hb, h.blkX.stay hb, h.lstA.below hb, h.lstX.below hb, h.els.keep (KeepI.below hb), h.elsR.keep (KeepI.below hb), h.numA.below hb, h.numX.below hb, h.bel.step hb (Nat.le_refl _), h.neA, h.neX⟩
theorem SumS.alloc (h : SumS w1 k vA vX xsA xsX zs z b6 b7 x a m c y d m' f w) (o : Obj) : SumS w1 k vA vX xsA xsX zs z b6 b7 x a m c y d m' f (w.alloc o) := h.below (below_new w o)
theorem SumS.drew (h : SumS w1 k vA vX xsA xsX zs z b6 b7 x a m c y d m' f w) : SumS w1 k vA vX xsA xsX zs z b6 b7 x a m c y d m' f w.drew := h.below (Below.refl _ _).drew
theorem SumS.appA (h : SumS w1 k vA vX xsA xsX zs z b6 b7 x a m c y d m' f w) (hk : AppK 31 w1.heap.size vA k xsA w w') : SumS w1 k vA vX xsA xsX zs z b6 b7 x a m c y d m' f w' :=
  ⟨h.blkA.app hk h.neA, h.blkX.app hk (h.lstA.blk h.blkX (by decide)), hk.2.2.2.2, h.lstX.app hk (by decide), h.els.keep hk.2.1, h.elsR.keep hk.2.1, h.numA.keepI hk.2.1, h.numX.keepI hk.2.1, h.bel.trans hk.2.2.1, h.neA, h.neX⟩
theorem SumS.appX (h : SumS w1 k vA vX xsA xsX zs z b6 b7 x a m c y d m' f w) (hk : AppK 39 w1.heap.size vX k xsX w w') : SumS w1 k vA vX xsA xsX zs z b6 b7 x a m c y d m' f w' :=
  ⟨h.blkA.app hk (h.lstX.blk h.blkA (by decide)), h.blkX.app hk h.neX, h.lstA.app hk (by decide), hk.2.2.2.2, h.els.keep hk.2.1, h.elsR.keep hk.2.1, h.numA.keepI hk.2.1, h.numX.keepI hk.2.1, h.bel.trans hk.2.2.1, h.neA, h.neX⟩
theorem SumS.all (h : SumS w1 k vA vX xsA xsX zs z b6 b7 x a m c y d m' f w) :
    (w.cell? ⟨b6, 0, none⟩ = some (.bool x) ∧ w.cell? ⟨b6, 1, none⟩ = some (.slice a m c) ∧ w.cell? ⟨b7, 0, none⟩ = some (.bool y) ∧ w.cell? ⟨b7, 1, none⟩ = some (.slice d m' f)) ∧ SumS w1 k vA vX xsA xsX zs z b6 b7 x a m c y d m' f w :=
  ⟨⟨h.blkA.two.1, h.blkA.two.2.1, h.blkX.two.1, h.blkX.two.2.1⟩, h⟩
end
end Go.Proofs.YteefniagebcagaaGreatDoor
