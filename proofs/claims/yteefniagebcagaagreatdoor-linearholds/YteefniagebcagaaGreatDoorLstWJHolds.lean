/- The step of one append to a slice of structs, and what such a slice's elements are; no statement of the seat is proved here. -/
import Derived.Test.YteefniagebcagaaGreatDoorSumAJHolds
namespace Go.Proofs.YteefniagebcagaaGreatDoor
open Go.RowKit

/-- 'append(out, x)', out the call's own, x a struct of a sign and a slice. -/
theorem wpList_append_two {P : Program} {W : World} {ops : Array Oper} {rest : List Oper} {o : Oper} {a : Act} {Q : Exit → Act → World → Prop} (hgd : o.guard = none) (s x : Operand) (t : TypeId)
    (ho : o.op = .call { callee := .builtin .append, args := #[s, x], argTypes := #[t, t] })
    (base : Nat) (e : TypeId) (bytes : Nat) (h1 : P.underlying t = some (.slice e)) (h2 : (P.info? e).map (fun i => (i.zero, i.size, i.bytes)) = some (some (.agg #[.bool false, .slice none 0 0]), 2, bytes)) (hby : bytes ≤ 64)
    (v : Value) (n : Nat) (xs : List Value) (hs : a.eval s = v) (hown : Lst e base W v n xs) (b0 : Bool) (a1 : Option Addr) (n1 c1 : Nat) (g : Nat) (hx : a.eval x = .slice (some ⟨g, 0, none⟩) 1 1) (hg : W.heap.size = g)
    (hn : n ≤ 1000) (hbase : base ≤ W.heap.size)
    (h : ∀ v' w', Lst e base w' v' (n + 1) (xs ++ [.bool b0, .slice a1 n1 c1]) → (∀ b, b < W.heap.size → v.ownBlock ≠ some b → w'.heap[b]? = W.heap[b]?) → KeepI W w' → Below base W w' → wpList P ops Q rest (a.put o.dst v') w') :
    wpList P ops Q (o :: rest) a (W.alloc (.cells #[.bool b0, .slice a1 n1 c1] e (0, 0))) := by
  subst hg
  obtain ⟨i, hi, hz0, hz1, hz2⟩ := info_parts h2
  have hW := below_new W (.cells #[.bool b0, .slice a1 n1 c1] e (0, 0))
  have hB := Blk.new W e #[.bool b0, .slice a1 n1 c1]
  obtain ⟨c0, c1', _, _⟩ := hB.two
  have N0 : NoI (.bool b0) := fun _ _ hh => by cases hh
  have N1 : ∀ (p : Option Addr) (q r : Nat), NoI (.slice p q r) := fun _ _ _ _ _ hh => by cases hh
  have NF : NoI (.bool false) := fun _ _ hh => by cases hh
  obtain ⟨v', w', hr, k1, k2, k3, _⟩ := run_append_two (P := P) (W.alloc (.cells #[.bool b0, .slice a1 n1 c1] e (0, 0))) base t o.type e i _ h1 hi hz0 hz1 (by omega) rfl
    (by intro u hu; simp [Value.cells] at hu; rcases hu with rfl | rfl; exact NF; exact N1 _ _ _)
    v n xs (hown.below hW) ⟨W.heap.size, 0, none⟩ 1 (.bool b0) (.slice a1 n1 c1) c0 c1' rfl rfl N0 (N1 _ _ _) hn (by simp; omega)
  have hblk : ∀ b, b < W.heap.size → v.ownBlock ≠ some b → w'.heap[b]? = W.heap[b]? := by
    intro b hb1 hb2
    rw [k2.block b (by simp; omega) (fun e => hb2 e.symm), Below.heap_alloc W _ b hb1]
  refine wpList_plain hgd fun _ hK => ?_
  unfold Oper.wp execOp
  simp only [ho, resolve, invoke, builtin, Sem.run_bind, Sem.run_pure, Result.andThen_ok, List.map_toArray, List.map_cons, List.map_nil, hs, hx, hr]
  refine hK _ _ (h v' w' k1 hblk ((KeepI.below hW).trans k3) ?_)
  refine ⟨k2.os, k2.tape, k2.output, by have := k2.size; simp at this; omega, fun b hb1 => hblk b (by omega) (fun e => ?_)⟩
  have := (hown.lt b e).1
  omega

/-- The cells xs are numbers' structs. -/
def Els (w : World) (xs : List Value) (zs : List Int) : Prop :=
  ∀ i, i < zs.length → ∃ s a n c, xs[i * 2]? = some (.bool s) ∧ xs[i * 2 + 1]? = some (.slice a n c) ∧ AInt w (.agg #[.bool s, .slice a n c]) (zs.getD i 0)
theorem Els.nil (w : World) : Els w [] [] := fun i hi => by simp at hi
theorem Els.keep {w w' : World} {xs : List Value} {zs : List Int} (h : Els w xs zs) (hk : KeepI w w') : Els w' xs zs := by
  intro i hi
  obtain ⟨s, a, n, c, h1, h2, h3⟩ := h i hi
  exact ⟨s, a, n, c, h1, h2, h3.keepI hk⟩
theorem Els.push {w : World} {xs : List Value} {zs : List Int} (h : Els w xs zs) (hl : xs.length = zs.length * 2) {s : Bool} {a : Option Addr} {n c : Nat} {z : Int} (hz : AInt w (.agg #[.bool s, .slice a n c]) z) : Els w (xs ++ [.bool s, .slice a n c]) (zs ++ [z]) := by
  intro i hi
  rw [List.length_append, List.length_singleton] at hi
  rcases Nat.lt_or_ge i zs.length with k | k
  · obtain ⟨s', a', n', c', h1, h2, h3⟩ := h i k
    refine ⟨s', a', n', c', ?_, ?_, ?_⟩
    · rw [List.getElem?_append_left (by omega)]; exact h1
    · rw [List.getElem?_append_left (by omega)]; exact h2
    · rw [List.getD_eq_getElem?_getD, List.getElem?_append_left k, ← List.getD_eq_getElem?_getD]; exact h3
  · have e : i = zs.length := by omega
    subst e
    refine ⟨s, a, n, c, ?_, ?_, ?_⟩
    · rw [List.getElem?_append_right (by omega), hl, Nat.sub_self]; rfl
    · rw [List.getElem?_append_right (by omega), hl, show zs.length * 2 + 1 - zs.length * 2 = 1 by omega]; rfl
    · rw [List.getD_eq_getElem?_getD, List.getElem?_append_right (Nat.le_refl _), Nat.sub_self]; exact hz

/-- Such a slice, whole, its first and its last elements. -/
theorem Lst.arr {e : TypeId} {base : Nat} {w : World} {v : Value} {n : Nat} {xs : List Value} {zs : List Int} (h : Lst e base w v n xs) (he : Els w xs zs) (hl : zs.length = n) :
    (v = .slice none 0 0 ∧ n = 0) ∨ ∃ g cap, v = .slice (some ⟨g, 0, none⟩) n cap ∧ n ≤ cap ∧ cap ≤ maxLen ∧ Arr w (some ⟨g, 0, none⟩) zs := by
  rcases h.2 with h0 | ⟨g, cap, cur, rfl, h3, h4, h5, h6, _⟩
  · exact Or.inl h0
  · refine Or.inr ⟨g, cap, rfl, h5, h6, ?_⟩
    rcases h.cells with k | ⟨g', cap', e1, _, _, _, _, h7⟩
    · exact Or.inl (List.eq_nil_of_length_eq_zero (hl.trans k))
    · cases e1
      refine Or.inr ⟨g, 0, rfl, fun i hi => ?_⟩
      obtain ⟨s, a, m, c, k1, k2, k3⟩ := he i hi
      exact ⟨s, a, m, c, by rw [Nat.zero_add]; exact h7 _ _ k1, by rw [Nat.zero_add]; exact h7 _ _ k2, k3⟩
theorem Arr.take {w : World} {ao : Option Addr} {zs : List Int} (h : Arr w ao zs) (k : Nat) : Arr w ao (zs.take k) := by
  rcases h with rfl | ⟨g, o, rfl, hc⟩
  · exact Or.inl (by simp)
  · refine Or.inr ⟨g, o, rfl, fun i hi => ?_⟩
    rw [List.length_take] at hi
    obtain ⟨s, a, n, c, h1, h2, h3⟩ := hc i (by omega)
    refine ⟨s, a, n, c, h1, h2, ?_⟩
    rw [List.getD_eq_getElem?_getD, List.getElem?_take, if_pos (by omega), ← List.getD_eq_getElem?_getD]
    exact h3
theorem Arr.drop {w : World} {g o : Nat} {zs : List Int} (h : Arr w (some ⟨g, o, none⟩) zs) (k : Nat) : Arr w (some ⟨g, o + k * 2, none⟩) (zs.drop k) := by
  rcases h with rfl | ⟨g', o', he, hc⟩
  · exact Or.inl (by simp)
  · cases he
    refine Or.inr ⟨g, o + k * 2, rfl, fun i hi => ?_⟩
    rw [List.length_drop] at hi
    obtain ⟨s, a, n, c, h1, h2, h3⟩ := hc (k + i) (by omega)
    have e : o + (k + i) * 2 = o + k * 2 + i * 2 := by omega
    rw [e] at h1 h2
    refine ⟨s, a, n, c, h1, h2, ?_⟩
    rw [List.getD_eq_getElem?_getD, List.getElem?_drop, ← List.getD_eq_getElem?_getD]
    exact h3

theorem sums_sum : ∀ (zs : List Int) (p s : Int), sums p zs = some s → s = p + zs.sum
  | [], p, s, h => by simp [sums] at h; simp [h]
  | x :: r, p, s, h => by
    rw [sums] at h
    split at h
    · rw [sums_sum r _ _ h, List.sum_cons, Int.add_assoc]
    · cases h
theorem sumE_sum {zs : List Int} (h : sumE zs = 0) : sumZ zs = zs.sum := by
  unfold sumE at h
  unfold sumZ
  cases hs : sums 0 zs with
  | none => rw [hs] at h; simp at h
  | some s => rw [Option.getD_some, sums_sum zs 0 s hs, Int.zero_add]
theorem sumE_other {zs : List Int} (h : sumE zs ≠ 0) : sumE zs = 11 := by
  unfold sumE at h ⊢
  split
  · rename_i k; rw [if_pos k] at h; exact absurd rfl h
  · rfl
theorem sumZ_parts {zs : List Int} {k : Nat} (h : sumE zs = 0) (h1 : sumE (zs.take k) = 0) (h2 : sumE (zs.drop k) = 0) : sumZ zs = sumZ (zs.take k) + sumZ (zs.drop k) := by
  rw [sumE_sum h, sumE_sum h1, sumE_sum h2, ← List.sum_append, List.take_append_drop]

/-- Texts that lie one behind the other. -/
def Strs (w : World) (ao : Option Addr) (n : Nat) (Sx : Nat → ByteArray) : Prop := n = 0 ∨ ∃ b off, ao = some ⟨b, off, none⟩ ∧ ∀ i, i < n → w.cell? ⟨b, off + i, none⟩ = some (.string (Sx i)) ∧ (Sx i).size ≤ maxLen
theorem Strs.below {w w' : World} {ao : Option Addr} {n : Nat} {Sx : Nat → ByteArray} (h : Strs w ao n Sx) (hb : Below w.heap.size w w') : Strs w' ao n Sx := by
  rcases h with h | ⟨b, off, rfl, hc⟩
  · exact Or.inl h
  · refine Or.inr ⟨b, off, rfl, fun i hi => ⟨?_, (hc i hi).2⟩⟩
    have h1 := (hc i hi).1
    exact (hb.cell (p := ⟨b, off + i, none⟩) (World.block_lt_of_cell? w _ h1)).trans h1
end Go.Proofs.YteefniagebcagaaGreatDoor
