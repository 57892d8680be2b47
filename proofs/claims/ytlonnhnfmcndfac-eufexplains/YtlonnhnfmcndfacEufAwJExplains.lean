/- What is kept while one goes after why: its memory; no statement of the seat is proved here. -/
import Derived.Test.YtlonnhnfmcndfacJoin8Explains
namespace Go.Proofs.Ytlonnhnfmcndfac
open Go.RowKit
set_option linter.unusedVariables false
namespace Euf
section
variable {P : Program} {K E : TypeId} {w : World} {b n : Nat}
/-- As many entries as keys, by a number for each key. -/
theorem MapF.tightBy {m : Value → Option Int} (h : MapF P K E w b n m) (KL : Maps.Keyed P K) (N : Nat) (q : Value → Nat) (hN : ∀ k x, m k = some x → q k < N) (hi : ∀ k k' x x', m k = some x → m k' = some x' → q k = q k' → k = k') : MapF P K E w b N m := by
  obtain ⟨D, ⟨es, clock, hb, F, hs, rfl⟩, hD⟩ := h
  refine ⟨_, ⟨es, clock, hb, F, ?_, rfl⟩, hD⟩
  have some_ : ∀ e ∈ es.toList, ∃ x, m e.key = some x := by
    intro e he
    obtain ⟨y, hy⟩ := F.reads e he
    have hk := WideElems.rd_key hy
    have h1 := (hD e.key y.1 hk).1
    have hin : y ∈ (es.toList.map (WideElems.rg P K (plainElem P E))).foldr DataW.insert [] := (WideShapes.sorted_perm _).mem_iff.2 (List.mem_map.2 ⟨e, he, WideElems.rg_of hy⟩)
    have h2 : Maps.has (DataW.map ((es.toList.map (WideElems.rg (H := Unit) P K (plainElem P E))).foldr DataW.insert [])) y.1 = true := by
      rw [Maps.has_eq, List.any_eq_true]
      exact ⟨y, hin, WideAt.sameKey_self (KL.key hk)⟩
    rw [h2] at h1
    exact Option.isSome_iff_exists.1 h1.symm
  have hn : es.toList.Pairwise (fun x y => x.key ≠ y.key) := ((MapKept.stamped_iff es clock).1 F.stamped).2.2
  have key : (es.toList.map (fun e => q e.key)).Nodup := by
    rw [List.Nodup, List.pairwise_map]
    have : es.toList.Pairwise (fun x y => x ∈ es.toList ∧ y ∈ es.toList ∧ x.key ≠ y.key) := List.Pairwise.imp_of_mem (fun ha hb h => ⟨ha, hb, h⟩) hn
    refine this.imp (fun {a b'} hab e => ?_)
    obtain ⟨x, hx⟩ := some_ a hab.1
    obtain ⟨y, hy⟩ := some_ b' hab.2.1
    exact hab.2.2 (hi _ _ _ _ hx hy e)
  have := nodup_le N _ key (fun x hx => by
    obtain ⟨e, he, rfl⟩ := List.mem_map.1 hx
    obtain ⟨x, hx⟩ := some_ e he
    exact hN _ _ hx)
  simpa using this
theorem MapS.tightBy {m : Value → Bool} (h : MapS P K w b n m) (KL : Maps.Keyed P K) (N : Nat) (q : Value → Nat) (hN : ∀ k, m k = true → q k < N) (hi : ∀ k k', m k = true → m k' = true → q k = q k' → k = k') : MapS P K w b N m := by
  obtain ⟨D, ⟨es, clock, hb, F, hs, rfl⟩, hD⟩ := h
  refine ⟨_, ⟨es, clock, hb, F, ?_, rfl⟩, hD⟩
  have some_ : ∀ e ∈ es.toList, m e.key = true := by
    intro e he
    obtain ⟨y, hy⟩ := F.reads e he
    have hk := WideElems.rd_key hy
    have h1 := hD e.key y.1 hk
    have hin : y ∈ (es.toList.map (WideElems.rg P K unitElem)).foldr DataW.insert [] := (WideShapes.sorted_perm _).mem_iff.2 (List.mem_map.2 ⟨e, he, WideElems.rg_of hy⟩)
    have h2 : Maps.has (DataW.map ((es.toList.map (WideElems.rg (H := Unit) P K unitElem)).foldr DataW.insert [])) y.1 = true := by
      rw [Maps.has_eq, List.any_eq_true]
      exact ⟨y, hin, WideAt.sameKey_self (KL.key hk)⟩
    rw [h2] at h1
    exact h1.symm
  have hn : es.toList.Pairwise (fun x y => x.key ≠ y.key) := ((MapKept.stamped_iff es clock).1 F.stamped).2.2
  have key : (es.toList.map (fun e => q e.key)).Nodup := by
    rw [List.Nodup, List.pairwise_map]
    have : es.toList.Pairwise (fun x y => x ∈ es.toList ∧ y ∈ es.toList ∧ x.key ≠ y.key) := List.Pairwise.imp_of_mem (fun ha hb h => ⟨ha, hb, h⟩) hn
    exact this.imp (fun {a b'} hab e => hab.2.2 (hi _ _ (some_ a hab.1) (some_ b' hab.2.1) e))
  have := nodup_le N _ key (fun x hx => by
    obtain ⟨e, he, rfl⟩ := List.mem_map.1 hx
    exact hN _ (some_ e he))
  simpa using this
end
def abF (ab : Nat → Option Nat) : Value → Option Int
  | .int .i64 z => if 0 ≤ z then Option.map Int.ofNat (ab z.toNat) else none
  | _ => none
theorem abF_at (ab : Nat → Option Nat) (i : Nat) : abF ab (.int .i64 (i : Nat)) = Option.map Int.ofNat (ab i) := by simp [abF]
theorem abF_some {ab : Nat → Option Nat} {v : Value} {z : Int} (h : abF ab v = some z) : ∃ i j : Nat, v = .int .i64 (i : Nat) ∧ ab i = some j ∧ z = (j : Nat) := by
  unfold abF at h
  split at h
  · rename_i x
    split at h
    · rename_i hx
      obtain ⟨r, hr, rfl⟩ := Option.map_eq_some_iff.1 h
      exact ⟨x.toNat, r, by rw [Int.toNat_of_nonneg hx], hr, rfl⟩
    · cases h
  · cases h
theorem abF_other {ab ab' : Nat → Option Nat} {i : Nat} (h : ∀ k, k ≠ i → ab' k = ab k) : ∀ v, v ≠ Value.int .i64 (i : Nat) → abF ab' v = abF ab v := by
  intro v hv
  unfold abF
  split
  · rename_i x
    split
    · rename_i hx
      rw [h x.toNat (fun e => hv (by rw [← e, Int.toNat_of_nonneg hx]))]
    · rfl
  · rfl
def seF (se : Nat × Nat → Bool) : Value → Bool
  | .agg cs => match cs.toList with
    | [.int .i64 x, .int .i64 y] => if 0 ≤ x ∧ 0 ≤ y then se (x.toNat, y.toNat) else false
    | _ => false
  | _ => false
theorem seF_at (se : Nat × Nat → Bool) (x y : Nat) : seF se (.agg #[.int .i64 (x : Nat), .int .i64 (y : Nat)]) = se (x, y) := by simp [seF]
theorem seF_true {se : Nat × Nat → Bool} {v : Value} (h : seF se v = true) : ∃ a b : Nat, v = .agg #[.int .i64 (a : Nat), .int .i64 (b : Nat)] ∧ se (a, b) = true := by
  unfold seF at h
  split at h
  · rename_i cs
    split at h
    · rename_i p q hcs
      split at h
      · rename_i hpq
        refine ⟨p.toNat, q.toNat, ?_, h⟩
        have : cs = #[.int .i64 p, .int .i64 q] := by
          apply Array.toList_inj.1; rw [hcs]
        rw [this, Int.toNat_of_nonneg hpq.1, Int.toNat_of_nonneg hpq.2]
      · cases h
    · cases h
  · cases h
theorem seF_other {se se' : Nat × Nat → Bool} {a b : Nat} (h : ∀ k, k ≠ (a, b) → se' k = se k) : ∀ v, v ≠ Value.agg #[.int .i64 (a : Nat), .int .i64 (b : Nat)] → seF se' v = seF se v := by
  intro v hv
  have one : ∀ (s t : Nat × Nat → Bool), (∀ k, k ≠ (a, b) → s k = t k) → seF s v = true → seF t v = true := by
    intro s t hst hz
    obtain ⟨p, q, rfl, h1⟩ := seF_true hz
    have hne : (p, q) ≠ (a, b) := by
      intro e
      injection e with e1 e2
      subst e1 e2
      exact hv rfl
    rw [seF_at, ← hst _ hne, h1]
  rw [Bool.eq_iff_iff]
  exact ⟨one _ _ h, one _ _ (fun k hk => (h k hk).symm)⟩
/-- Where it lies. -/
structure Ax where
  bS : Nat
  vW : Value
  bA : Nat
  vE : Value
/-- What it holds. -/
structure Ac where
  se : Nat × Nat → Bool
  wt : List (Nat × Nat)
  ab : Nat → Option Nat
  eq : List Int
def prC (l : List (Nat × Nat)) (i : Nat) : List Value := [.int .i64 ((l.getD i (0, 0)).1 : Nat), .int .i64 ((l.getD i (0, 0)).2 : Nat)]
def inC (l : List Int) (i : Nat) : List Value := [.int .i64 (l.getD i 0)]
structure AW (w : World) (p g : Nat) (x : Ax) (c : Ac) (N : Nat) : Prop where
  blk : w.heap[p]? = some (.cells #[.pointer (some ⟨g, 0, none⟩), .map (some x.bS), x.vW, .map (some x.bA), x.vE] 88 (0, 0))
  seen : MapS Try.prog 59 w x.bS (N * N) (seF c.se)
  wait : OL 2 59 w x.vW c.wt.length (prC c.wt)
  above : MapF Try.prog 3 3 w x.bA N (abF c.ab)
  eqs : OL 1 3 w x.vE c.eq.length (inC c.eq)
  ne : x.bS ≠ x.bA
  seN : ∀ a b, c.se (a, b) = true → a < N ∧ b < N
  small : N ≤ 10000
/-- Its blocks. -/
def Fy (p : Nat) (x : Ax) (b : Nat) : Prop := b = p ∨ b = x.bS ∨ b = x.bA ∨ x.vW.ownBlock = some b ∨ x.vE.ownBlock = some b
section
variable {w w' : World} {p g : Nat} {x : Ax} {c : Ac} {N : Nat}
theorem AW.lt (h : AW w p g x c N) : p < w.heap.size := (Array.getElem?_eq_some_iff.1 h.blk).1
theorem AW.keep (h : AW w p g x c N) (hb : ∀ b, Fy p x b → w'.heap[b]? = w.heap[b]?) : AW w' p g x c N :=
  { h with blk := (hb _ (Or.inl rfl)).trans h.blk, seen := h.seen.stay (hb _ (Or.inr (Or.inl rfl))), wait := h.wait.stay fun b e => hb b (Or.inr (Or.inr (Or.inr (Or.inl e)))), above := h.above.stay (hb _ (Or.inr (Or.inr (Or.inl rfl)))), eqs := h.eqs.stay fun b e => hb b (Or.inr (Or.inr (Or.inr (Or.inr e)))) }
theorem AW.fyLt (h : AW w p g x c N) {b : Nat} (hb : Fy p x b) : b < w.heap.size := by
  rcases hb with rfl | rfl | rfl | hb | hb
  · exact h.lt
  · exact h.seen.lt
  · exact h.above.lt
  · exact h.wait.lt hb
  · exact h.eqs.lt hb
theorem AW.below (h : AW w p g x c N) (hb : Below w.heap.size w w') : AW w' p g x c N := h.keep fun b hf => hb.block b (h.fyLt hf)
theorem AW.cells (h : AW w p g x c N) : w.cell? ⟨p, 0, none⟩ = some (.pointer (some ⟨g, 0, none⟩)) ∧ w.cell? ⟨p, 1, none⟩ = some (.map (some x.bS)) ∧ w.cell? ⟨p, 2, none⟩ = some x.vW ∧ w.cell? ⟨p, 3, none⟩ = some (.map (some x.bA)) ∧ w.cell? ⟨p, 4, none⟩ = some x.vE :=
  ⟨cell_of_row w p 0 _ 88 (0, 0) h.blk, cell_of_row w p 1 _ 88 (0, 0) h.blk, cell_of_row w p 2 _ 88 (0, 0) h.blk, cell_of_row w p 3 _ 88 (0, 0) h.blk, cell_of_row w p 4 _ 88 (0, 0) h.blk⟩
theorem AW.frozen (h : AW w p g x c N) (o : Nat) : w.frozen? ⟨p, o, none⟩ = false := frozen_of_row w p o _ 88 h.blk
theorem blk_map {w : World} {b : Nat} {es : Array MapEntry} {cl : Nat} {cs : Array Value} {e : TypeId} (h1 : w.heap[b]? = some (.map es cl)) (h2 : w.heap[b]? = some (.cells cs e (0, 0))) : False := by
  rw [h1] at h2; cases h2
/-- The table of pairs is turned. -/
theorem AW.turnSeen (h : AW w p g x c N) {se : Nat × Nat → Bool} (ht : w.mapTurned w' x.bS) (hm : MapS Try.prog 59 w' x.bS (N * N) (seF se)) (hn : ∀ a b, se (a, b) = true → a < N ∧ b < N) : AW w' p g x { c with se := se } N ∧ Mv (fun b => b = x.bS) w w' := by
  have hg := ht.grown
  have other : ∀ b, b < w.heap.size → b ≠ x.bS → w'.heap[b]? = w.heap[b]? := fun b hb hne => hg.block b hb (fun e => hne (by injection e))
  obtain ⟨es, cl, hmap⟩ := h.seen.isMap
  have nm : ∀ {sz : Nat} {e : TypeId} {v : Value} {n : Nat} {f : Nat → List Value}, OL sz e w v n f → ∀ b, v.ownBlock = some b → b ≠ x.bS := by
    intro sz e v n f ho b hb e'
    obtain ⟨cs, hcs⟩ := ho.elem hb
    exact blk_map hmap (e' ▸ hcs)
  refine ⟨{ blk := (other _ h.lt (fun e => blk_map (e ▸ hmap) h.blk)).trans h.blk, seen := hm, wait := h.wait.stay fun b e => other b (h.wait.lt e) (nm h.wait b e), above := h.above.stay (other _ h.above.lt (Ne.symm h.ne)), eqs := h.eqs.stay fun b e => other b (h.eqs.lt e) (nm h.eqs b e), ne := h.ne, seN := hn, small := h.small }, ?_⟩
  exact ⟨hg.os, hg.tape, hg.output, hg.size, fun b hb hn => other b hb hn⟩
theorem OL.neS {sz : Nat} {e : TypeId} {w : World} {v : Value} {n : Nat} {f : Nat → List Value} (h : OL sz e w v n f) {P : Program} {K : TypeId} {b k : Nat} {m : Value → Bool} (hm : MapS P K w b k m) : v.ownBlock ≠ some b := by
  intro hb
  obtain ⟨cs, hcs⟩ := h.elem hb
  obtain ⟨es, cl, he⟩ := hm.isMap
  exact blk_map he hcs
/-- One pair more waits. -/
theorem AW.pushWait (h : AW w p g x c N) {v : Value} (q : Nat × Nat) (hap : App x.vW v w w') (hol : OL 2 59 w' v (c.wt.length + 1) (prC (c.wt ++ [q]))) :
    AW (w'.setCell ⟨p, 2, none⟩ v) p g { x with vW := v } { c with wt := c.wt ++ [q] } N ∧ Mv (fun b => b = p ∨ x.vW.ownBlock = some b) w (w'.setCell ⟨p, 2, none⟩ v) := by
  have keep : ∀ b, b < w.heap.size → x.vW.ownBlock ≠ some b → b ≠ p → (w'.setCell ⟨p, 2, none⟩ v).heap[b]? = w.heap[b]? := fun b hb h1 h2 => (heap_setCell_other w' ⟨p, 2, none⟩ b v h2).trans (hap.other b hb h1)
  have hg : w'.heap[p]? = _ := (hap.other p h.lt (h.wait.neB h.blk (by decide))).trans h.blk
  have pm : ∀ {b : Nat}, (∃ es cl, w.heap[b]? = some (.map es cl)) → b ≠ p := by
    rintro b ⟨es, cl, he⟩ e'
    exact blk_map (e' ▸ he) h.blk
  refine ⟨{ blk := (heap_setCell_same w' p 2 _ 88 v hg).trans rfl, seen := h.seen.stay (keep _ h.seen.lt (h.wait.neS h.seen) (pm h.seen.isMap)), wait := ?_, above := h.above.stay (keep _ h.above.lt (h.wait.neM h.above) (pm h.above.isMap)), eqs := h.eqs.stay fun b e => keep b (h.eqs.lt e) (fun hc => h.eqs.ne h.wait (by decide) e hc) (fun e' => h.eqs.neB h.blk (by decide) (e' ▸ e)), ne := h.ne, seN := h.seN, small := h.small }, ?_⟩
  · show OL 2 59 _ v (c.wt ++ [q]).length (prC (c.wt ++ [q]))
    rw [List.length_append]
    exact hol.stay fun b hb => heap_setCell_other w' ⟨p, 2, none⟩ b v (fun e' => hol.neB hg (by decide) (by rw [hb, e']))
  · exact ⟨hap.os, hap.tape, hap.output, by simp; exact hap.size, fun b hb hn => keep b hb (fun hc => hn (Or.inr hc)) (fun e' => hn (Or.inl e'))⟩
/-- Fewer pairs wait. -/
theorem AW.popWait (h : AW w p g x c N) {v : Value} {l : List (Nat × Nat)} (hv : v.ownBlock = x.vW.ownBlock) (hol : OL 2 59 w v l.length (prC l)) :
    AW (w.setCell ⟨p, 2, none⟩ v) p g { x with vW := v } { c with wt := l } N ∧ Mv (fun b => b = p) w (w.setCell ⟨p, 2, none⟩ v) := by
  have keep : ∀ b, b ≠ p → (w.setCell ⟨p, 2, none⟩ v).heap[b]? = w.heap[b]? := fun b h2 => heap_setCell_other w ⟨p, 2, none⟩ b v h2
  have pm : ∀ {b : Nat}, (∃ es cl, w.heap[b]? = some (.map es cl)) → b ≠ p := by
    rintro b ⟨es, cl, he⟩ e'
    exact blk_map (e' ▸ he) h.blk
  refine ⟨{ blk := (heap_setCell_same w p 2 _ 88 v h.blk).trans rfl, seen := h.seen.stay (keep _ (pm h.seen.isMap)), wait := ?_, above := h.above.stay (keep _ (pm h.above.isMap)), eqs := h.eqs.stay fun b e => keep b (fun e' => h.eqs.neB h.blk (by decide) (e' ▸ e)), ne := h.ne, seN := h.seN, small := h.small }, ?_⟩
  · exact hol.stay fun b hb => keep b (fun e' => hol.neB h.blk (by decide) (by rw [hb, e']))
  · exact ⟨rfl, rfl, rfl, by simp, fun b hb hn => keep b hn⟩
/-- One equation more. -/
theorem AW.pushEqs (h : AW w p g x c N) {v : Value} (q : Int) (hap : App x.vE v w w') (hol : OL 1 3 w' v (c.eq.length + 1) (inC (c.eq ++ [q]))) :
    AW (w'.setCell ⟨p, 4, none⟩ v) p g { x with vE := v } { c with eq := c.eq ++ [q] } N ∧ Mv (fun b => b = p ∨ x.vE.ownBlock = some b) w (w'.setCell ⟨p, 4, none⟩ v) := by
  have keep : ∀ b, b < w.heap.size → x.vE.ownBlock ≠ some b → b ≠ p → (w'.setCell ⟨p, 4, none⟩ v).heap[b]? = w.heap[b]? := fun b hb h1 h2 => (heap_setCell_other w' ⟨p, 4, none⟩ b v h2).trans (hap.other b hb h1)
  have hg : w'.heap[p]? = _ := (hap.other p h.lt (h.eqs.neB h.blk (by decide))).trans h.blk
  have pm : ∀ {b : Nat}, (∃ es cl, w.heap[b]? = some (.map es cl)) → b ≠ p := by
    rintro b ⟨es, cl, he⟩ e'
    exact blk_map (e' ▸ he) h.blk
  refine ⟨{ blk := (heap_setCell_same w' p 4 _ 88 v hg).trans rfl, seen := h.seen.stay (keep _ h.seen.lt (h.eqs.neS h.seen) (pm h.seen.isMap)), wait := h.wait.stay fun b e => keep b (h.wait.lt e) (fun hc => h.wait.ne h.eqs (by decide) e hc) (fun e' => h.wait.neB h.blk (by decide) (e' ▸ e)), above := h.above.stay (keep _ h.above.lt (h.eqs.neM h.above) (pm h.above.isMap)), eqs := ?_, ne := h.ne, seN := h.seN, small := h.small }, ?_⟩
  · show OL 1 3 _ v (c.eq ++ [q]).length (inC (c.eq ++ [q]))
    rw [List.length_append]
    exact hol.stay fun b hb => heap_setCell_other w' ⟨p, 4, none⟩ b v (fun e' => hol.neB hg (by decide) (by rw [hb, e']))
  · exact ⟨hap.os, hap.tape, hap.output, by simp; exact hap.size, fun b hb hn => keep b hb (fun hc => hn (Or.inr hc)) (fun e' => hn (Or.inl e'))⟩
/-- The table of what lies above is turned. -/
theorem AW.turnAbove (h : AW w p g x c N) {ab : Nat → Option Nat} (ht : w.mapTurned w' x.bA) (hm : MapF Try.prog 3 3 w' x.bA N (abF ab)) : AW w' p g x { c with ab := ab } N ∧ Mv (fun b => b = x.bA) w w' := by
  have hg := ht.grown
  have other : ∀ b, b < w.heap.size → b ≠ x.bA → w'.heap[b]? = w.heap[b]? := fun b hb hne => hg.block b hb (fun e => hne (by injection e))
  obtain ⟨es, cl, hmap⟩ := h.above.isMap
  refine ⟨{ blk := (other _ h.lt (fun e => blk_map (e ▸ hmap) h.blk)).trans h.blk, seen := h.seen.stay (other _ h.seen.lt h.ne), wait := h.wait.stay fun b e => other b (h.wait.lt e) (fun e' => h.wait.neM h.above (e' ▸ e)), above := hm, eqs := h.eqs.stay fun b e => other b (h.eqs.lt e) (fun e' => h.eqs.neM h.above (e' ▸ e)), ne := h.ne, seN := h.seN, small := h.small }, ?_⟩
  exact ⟨hg.os, hg.tape, hg.output, hg.size, fun b hb hn => other b hb hn⟩
end
end Euf
end Go.Proofs.Ytlonnhnfmcndfac
