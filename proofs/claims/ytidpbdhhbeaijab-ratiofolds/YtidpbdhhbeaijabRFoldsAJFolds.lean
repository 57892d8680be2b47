/- What the walk of RatioFolds needs; no statement of the seat is proved here. -/
import Derived.Test.YtidpbdhhbeaijabJoin14Folds
import Derived.Test.YtidpbdhhbeaijabLst4JFolds
import Derived.Test.YtidpbdhhbeaijabL0JFolds
import Derived.Test.YtidpbdhhbeaijabQ6JFolds
import Derived.Test.YtidpbdhhbeaijabLstWJFolds
import Derived.OpenShut
namespace Go.Proofs.Ytidpbdhhbeaijab
open Go.RowKit

/-- 'append(out, x)', out the call's own, x a struct of two signs and two slices. -/
theorem wpList_append_four {P : Program} {W : World} {ops : Array Oper} {rest : List Oper} {o : Oper} {a : Act} {Q : Exit → Act → World → Prop} (hgd : o.guard = none) (s x : Operand) (t : TypeId)
    (ho : o.op = .call { callee := .builtin .append, args := #[s, x], argTypes := #[t, t] })
    (base : Nat) (e : TypeId) (bytes : Nat) (h1 : P.underlying t = some (.slice e)) (h2 : (P.info? e).map (fun i => (i.zero, i.size, i.bytes)) = some (some (.agg #[.bool false, .slice none 0 0, .bool false, .slice none 0 0]), 4, bytes)) (hby : bytes ≤ 128)
    (v : Value) (n : Nat) (xs : List Value) (hs : a.eval s = v) (hown : Lst4 e base W v n xs) (b0 : Bool) (a1 : Option Addr) (n1 c1 : Nat) (b2 : Bool) (a3 : Option Addr) (n3 c3 : Nat) (g : Nat) (hx : a.eval x = .slice (some ⟨g, 0, none⟩) 1 1) (hg : W.heap.size = g)
    (hn : n ≤ 1000) (hbase : base ≤ W.heap.size)
    (h : ∀ v' w', Lst4 e base w' v' (n + 1) (xs ++ [.bool b0, .slice a1 n1 c1, .bool b2, .slice a3 n3 c3]) → KeepI W w' → Below base W w' → wpList P ops Q rest (a.put o.dst v') w') :
    wpList P ops Q (o :: rest) a (W.alloc (.cells #[.bool b0, .slice a1 n1 c1, .bool b2, .slice a3 n3 c3] e (0, 0))) := by
  subst hg
  obtain ⟨i, hi, hz0, hz1, hz2⟩ := info_parts h2
  have hW := below_new W (.cells #[.bool b0, .slice a1 n1 c1, .bool b2, .slice a3 n3 c3] e (0, 0))
  have hB := Blk.new W e #[.bool b0, .slice a1 n1 c1, .bool b2, .slice a3 n3 c3]
  obtain ⟨d0, d1, d2, d3⟩ := hB.four
  have N0 : ∀ b : Bool, NoI (.bool b) := fun _ _ _ hh => by cases hh
  have N1 : ∀ (p : Option Addr) (q r : Nat), NoI (.slice p q r) := fun _ _ _ _ _ hh => by cases hh
  obtain ⟨v', w', hr, k1, k2, k3, _⟩ := run_append_four (P := P) (W.alloc (.cells #[.bool b0, .slice a1 n1 c1, .bool b2, .slice a3 n3 c3] e (0, 0))) base t o.type e i _ h1 hi hz0 hz1 (by omega) rfl
    (by intro u hu; simp [Value.cells] at hu; rcases hu with rfl | rfl | rfl | rfl; exact N0 _; exact N1 _ _ _; exact N0 _; exact N1 _ _ _)
    v n xs (hown.below hW) ⟨W.heap.size, 0, none⟩ 1 (.bool b0) (.slice a1 n1 c1) (.bool b2) (.slice a3 n3 c3) d0 d1 d2 d3 rfl rfl rfl rfl (N0 _) (N1 _ _ _) (N0 _) (N1 _ _ _) hn (by simp; omega)
  have hblk : ∀ b, b < W.heap.size → v.ownBlock ≠ some b → w'.heap[b]? = W.heap[b]? := by
    intro b hb1 hb2
    rw [k2.block b (by simp; omega) (fun e => hb2 e.symm), Below.heap_alloc W _ b hb1]
  refine wpList_plain hgd fun _ hK => ?_
  unfold Oper.wp execOp
  simp only [ho, resolve, invoke, builtin, Sem.run_bind, Sem.run_pure, Result.andThen_ok, List.map_toArray, List.map_cons, List.map_nil, hs, hx, hr]
  refine hK _ _ (h v' w' k1 ((KeepI.below hW).trans k3) ?_)
  refine ⟨k2.os, k2.tape, k2.output, by have := k2.size; simp at this; omega, fun b hb1 => hblk b (by omega) (fun e => ?_)⟩
  have := (hown.lt b e).1
  omega

theorem ButS.below {b B : Nat} {w w' : World} (h : ButS b w w') (hb : B ≤ b) (hB : B ≤ w.heap.size) : Below B w w' := ⟨h.os, h.tape, h.output, h.size, fun k hk => h.block k (by omega) (by omega)⟩
theorem Below.shr {B C : Nat} {w w' : World} (h : Below C w w') (hb : B ≤ C) : Below B w w' := ⟨h.os, h.tape, h.output, h.size, fun k hk => h.block k (by omega)⟩

end Go.Proofs.Ytidpbdhhbeaijab
