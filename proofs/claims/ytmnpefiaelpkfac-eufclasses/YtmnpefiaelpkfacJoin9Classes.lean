/- Joined: EufAw, EufAt, EufAs, EufAm: words and contracts; no statement of the seat is proved here. -/
import Derived.Test.YtmnpefiaelpkfacJoin8Classes
import Derived.Deep.CutRange
import Derived.BigQuiet
/- What is kept while one goes after why: its memory; no statement of the seat is proved here. -/
namespace Go.Proofs.Ytmnpefiaelpkfac
open Go.RowKit
set_option linter.unusedVariables false
namespace Euf
section
variable {P : Program} {K E : TypeId} {w : World} {b n : Nat}
/-- As many entries as keys, by a number for each key. -/
theorem MapF.tightBy {m : Value → Option Int} (h : MapF P K E w b n m) (KL : Maps.Keyed P K) (N : Nat) (q : Value → Nat) (hN : ∀ k x, m k = some x → q k < N) (hi : ∀ k k' x x', m k = some x → m k' = some x' → q k = q k' → k = k') : MapF P K E w b N m := by
  obtain ⟨D, ⟨es, clock, hb, F, hs, rfl⟩, hD⟩ := h
  refine ⟨_, ⟨es, clock, hb, F, ?_, rfl⟩, hD⟩
  have some_ : ∀ e ∈ es.toList, ∃ x, m e.key = some x := by
    intro e he
    obtain ⟨y, hy⟩ := F.reads e he
    have hk := WideElems.rd_key hy
    have h1 := (hD e.key y.1 hk).1
    have hin : y ∈ (es.toList.map (WideElems.rg P K (plainElem P E))).foldr DataW.insert [] := (WideShapes.sorted_perm _).mem_iff.2 (List.mem_map.2 ⟨e, he, WideElems.rg_of hy⟩)
    have h2 : Maps.has (DataW.map ((es.toList.map (WideElems.rg (H := Unit) P K (plainElem P E))).foldr DataW.insert [])) y.1 = true := by
      rw [Maps.has_eq, List.any_eq_true]
      exact ⟨y, hin, WideAt.sameKey_self (KL.key hk)⟩
    rw [h2] at h1
    exact Option.isSome_iff_exists.1 h1.symm
  have hn : es.toList.Pairwise (fun x y => x.key ≠ y.key) := ((MapKept.stamped_iff es clock).1 F.stamped).2.2
  have key : (es.toList.map (fun e => q e.key)).Nodup := by
    rw [List.Nodup, List.pairwise_map]
    have : es.toList.Pairwise (fun x y => x ∈ es.toList ∧ y ∈ es.toList ∧ x.key ≠ y.key) := List.Pairwise.imp_of_mem (fun ha hb h => ⟨ha, hb, h⟩) hn
    refine this.imp (fun {a b'} hab e => ?_)
    obtain ⟨x, hx⟩ := some_ a hab.1
    obtain ⟨y, hy⟩ := some_ b' hab.2.1
    exact hab.2.2 (hi _ _ _ _ hx hy e)
  have := nodup_le N _ key (fun x hx => by
    obtain ⟨e, he, rfl⟩ := List.mem_map.1 hx
    obtain ⟨x, hx⟩ := some_ e he
    exact hN _ _ hx)
  simpa using this
theorem MapS.tightBy {m : Value → Bool} (h : MapS P K w b n m) (KL : Maps.Keyed P K) (N : Nat) (q : Value → Nat) (hN : ∀ k, m k = true → q k < N) (hi : ∀ k k', m k = true → m k' = true → q k = q k' → k = k') : MapS P K w b N m := by
  obtain ⟨D, ⟨es, clock, hb, F, hs, rfl⟩, hD⟩ := h
  refine ⟨_, ⟨es, clock, hb, F, ?_, rfl⟩, hD⟩
  have some_ : ∀ e ∈ es.toList, m e.key = true := by
    intro e he
    obtain ⟨y, hy⟩ := F.reads e he
    have hk := WideElems.rd_key hy
    have h1 := hD e.key y.1 hk
    have hin : y ∈ (es.toList.map (WideElems.rg P K unitElem)).foldr DataW.insert [] := (WideShapes.sorted_perm _).mem_iff.2 (List.mem_map.2 ⟨e, he, WideElems.rg_of hy⟩)
    have h2 : Maps.has (DataW.map ((es.toList.map (WideElems.rg (H := Unit) P K unitElem)).foldr DataW.insert [])) y.1 = true := by
      rw [Maps.has_eq, List.any_eq_true]
      exact ⟨y, hin, WideAt.sameKey_self (KL.key hk)⟩
    rw [h2] at h1
    exact h1.symm
  have hn : es.toList.Pairwise (fun x y => x.key ≠ y.key) := ((MapKept.stamped_iff es clock).1 F.stamped).2.2
  have key : (es.toList.map (fun e => q e.key)).Nodup := by
    rw [List.Nodup, List.pairwise_map]
    have : es.toList.Pairwise (fun x y => x ∈ es.toList ∧ y ∈ es.toList ∧ x.key ≠ y.key) := List.Pairwise.imp_of_mem (fun ha hb h => ⟨ha, hb, h⟩) hn
    exact this.imp (fun {a b'} hab e => hab.2.2 (hi _ _ (some_ a hab.1) (some_ b' hab.2.1) e))
  have := nodup_le N _ key (fun x hx => by
    obtain ⟨e, he, rfl⟩ := List.mem_map.1 hx
    exact hN _ (some_ e he))
  simpa using this
end
def abF (ab : Nat → Option Nat) : Value → Option Int
  | .int .i64 z => if 0 ≤ z then Option.map Int.ofNat (ab z.toNat) else none
  | _ => none
theorem abF_at (ab : Nat → Option Nat) (i : Nat) : abF ab (.int .i64 (i : Nat)) = Option.map Int.ofNat (ab i) := by simp [abF]
theorem abF_some {ab : Nat → Option Nat} {v : Value} {z : Int} (h : abF ab v = some z) : ∃ i j : Nat, v = .int .i64 (i : Nat) ∧ ab i = some j ∧ z = (j : Nat) := by
  unfold abF at h
  split at h
  · rename_i x
    split at h
    · rename_i hx
      obtain ⟨r, hr, rfl⟩ := Option.map_eq_some_iff.1 h
      exact ⟨x.toNat, r, by rw [Int.toNat_of_nonneg hx], hr, rfl⟩
    · cases h
  · cases h
theorem abF_other {ab ab' : Nat → Option Nat} {i : Nat} (h : ∀ k, k ≠ i → ab' k = ab k) : ∀ v, v ≠ Value.int .i64 (i : Nat) → abF ab' v = abF ab v := by
  intro v hv
  unfold abF
  split
  · rename_i x
    split
    · rename_i hx
      rw [h x.toNat (fun e => hv (by rw [← e, Int.toNat_of_nonneg hx]))]
    · rfl
  · rfl
def seF (se : Nat × Nat → Bool) : Value → Bool
  | .agg cs => match cs.toList with
    | [.int .i64 x, .int .i64 y] => if 0 ≤ x ∧ 0 ≤ y then se (x.toNat, y.toNat) else false
    | _ => false
  | _ => false
theorem seF_at (se : Nat × Nat → Bool) (x y : Nat) : seF se (.agg #[.int .i64 (x : Nat), .int .i64 (y : Nat)]) = se (x, y) := by simp [seF]
theorem seF_true {se : Nat × Nat → Bool} {v : Value} (h : seF se v = true) : ∃ a b : Nat, v = .agg #[.int .i64 (a : Nat), .int .i64 (b : Nat)] ∧ se (a, b) = true := by
  unfold seF at h
  split at h
  · rename_i cs
    split at h
    · rename_i p q hcs
      split at h
      · rename_i hpq
        refine ⟨p.toNat, q.toNat, ?_, h⟩
        have : cs = #[.int .i64 p, .int .i64 q] := by
          apply Array.toList_inj.1; rw [hcs]
        rw [this, Int.toNat_of_nonneg hpq.1, Int.toNat_of_nonneg hpq.2]
      · cases h
    · cases h
  · cases h
theorem seF_other {se se' : Nat × Nat → Bool} {a b : Nat} (h : ∀ k, k ≠ (a, b) → se' k = se k) : ∀ v, v ≠ Value.agg #[.int .i64 (a : Nat), .int .i64 (b : Nat)] → seF se' v = seF se v := by
  intro v hv
  have one : ∀ (s t : Nat × Nat → Bool), (∀ k, k ≠ (a, b) → s k = t k) → seF s v = true → seF t v = true := by
    intro s t hst hz
    obtain ⟨p, q, rfl, h1⟩ := seF_true hz
    have hne : (p, q) ≠ (a, b) := by
      intro e
      injection e with e1 e2
      subst e1 e2
      exact hv rfl
    rw [seF_at, ← hst _ hne, h1]
  rw [Bool.eq_iff_iff]
  exact ⟨one _ _ h, one _ _ (fun k hk => (h k hk).symm)⟩
/-- Where it lies. -/
structure Ax where
  bS : Nat
  vW : Value
  bA : Nat
  vE : Value
/-- What it holds. -/
structure Ac where
  se : Nat × Nat → Bool
  wt : List (Nat × Nat)
  ab : Nat → Option Nat
  eq : List Int
def prC (l : List (Nat × Nat)) (i : Nat) : List Value := [.int .i64 ((l.getD i (0, 0)).1 : Nat), .int .i64 ((l.getD i (0, 0)).2 : Nat)]
def inC (l : List Int) (i : Nat) : List Value := [.int .i64 (l.getD i 0)]
structure AW (w : World) (p g : Nat) (x : Ax) (c : Ac) (N : Nat) : Prop where
  blk : w.heap[p]? = some (.cells #[.pointer (some ⟨g, 0, none⟩), .map (some x.bS), x.vW, .map (some x.bA), x.vE] 62 (0, 0))
  seen : MapS Try.prog 51 w x.bS (N * N) (seF c.se)
  wait : OL 2 51 w x.vW c.wt.length (prC c.wt)
  above : MapF Try.prog 3 3 w x.bA N (abF c.ab)
  eqs : OL 1 3 w x.vE c.eq.length (inC c.eq)
  ne : x.bS ≠ x.bA
  seN : ∀ a b, c.se (a, b) = true → a < N ∧ b < N
  small : N ≤ 10000
/-- Its blocks. -/
def Fy (p : Nat) (x : Ax) (b : Nat) : Prop := b = p ∨ b = x.bS ∨ b = x.bA ∨ x.vW.ownBlock = some b ∨ x.vE.ownBlock = some b
section
variable {w w' : World} {p g : Nat} {x : Ax} {c : Ac} {N : Nat}
theorem AW.lt (h : AW w p g x c N) : p < w.heap.size := (Array.getElem?_eq_some_iff.1 h.blk).1
theorem AW.keep (h : AW w p g x c N) (hb : ∀ b, Fy p x b → w'.heap[b]? = w.heap[b]?) : AW w' p g x c N :=
  { h with blk := (hb _ (Or.inl rfl)).trans h.blk, seen := h.seen.stay (hb _ (Or.inr (Or.inl rfl))), wait := h.wait.stay fun b e => hb b (Or.inr (Or.inr (Or.inr (Or.inl e)))), above := h.above.stay (hb _ (Or.inr (Or.inr (Or.inl rfl)))), eqs := h.eqs.stay fun b e => hb b (Or.inr (Or.inr (Or.inr (Or.inr e)))) }
theorem AW.fyLt (h : AW w p g x c N) {b : Nat} (hb : Fy p x b) : b < w.heap.size := by
  rcases hb with rfl | rfl | rfl | hb | hb
  · exact h.lt
  · exact h.seen.lt
  · exact h.above.lt
  · exact h.wait.lt hb
  · exact h.eqs.lt hb
theorem AW.below (h : AW w p g x c N) (hb : Below w.heap.size w w') : AW w' p g x c N := h.keep fun b hf => hb.block b (h.fyLt hf)
theorem AW.cells (h : AW w p g x c N) : w.cell? ⟨p, 0, none⟩ = some (.pointer (some ⟨g, 0, none⟩)) ∧ w.cell? ⟨p, 1, none⟩ = some (.map (some x.bS)) ∧ w.cell? ⟨p, 2, none⟩ = some x.vW ∧ w.cell? ⟨p, 3, none⟩ = some (.map (some x.bA)) ∧ w.cell? ⟨p, 4, none⟩ = some x.vE :=
  ⟨cell_of_row w p 0 _ 62 (0, 0) h.blk, cell_of_row w p 1 _ 62 (0, 0) h.blk, cell_of_row w p 2 _ 62 (0, 0) h.blk, cell_of_row w p 3 _ 62 (0, 0) h.blk, cell_of_row w p 4 _ 62 (0, 0) h.blk⟩
theorem AW.frozen (h : AW w p g x c N) (o : Nat) : w.frozen? ⟨p, o, none⟩ = false := frozen_of_row w p o _ 62 h.blk
theorem blk_map {w : World} {b : Nat} {es : Array MapEntry} {cl : Nat} {cs : Array Value} {e : TypeId} (h1 : w.heap[b]? = some (.map es cl)) (h2 : w.heap[b]? = some (.cells cs e (0, 0))) : False := by
  rw [h1] at h2; cases h2
/-- The table of pairs is turned. -/
theorem AW.turnSeen (h : AW w p g x c N) {se : Nat × Nat → Bool} (ht : w.mapTurned w' x.bS) (hm : MapS Try.prog 51 w' x.bS (N * N) (seF se)) (hn : ∀ a b, se (a, b) = true → a < N ∧ b < N) : AW w' p g x { c with se := se } N ∧ Mv (fun b => b = x.bS) w w' := by
  have hg := ht.grown
  have other : ∀ b, b < w.heap.size → b ≠ x.bS → w'.heap[b]? = w.heap[b]? := fun b hb hne => hg.block b hb (fun e => hne (by injection e))
  obtain ⟨es, cl, hmap⟩ := h.seen.isMap
  have nm : ∀ {sz : Nat} {e : TypeId} {v : Value} {n : Nat} {f : Nat → List Value}, OL sz e w v n f → ∀ b, v.ownBlock = some b → b ≠ x.bS := by
    intro sz e v n f ho b hb e'
    obtain ⟨cs, hcs⟩ := ho.elem hb
    exact blk_map hmap (e' ▸ hcs)
  refine ⟨{ blk := (other _ h.lt (fun e => blk_map (e ▸ hmap) h.blk)).trans h.blk, seen := hm, wait := h.wait.stay fun b e => other b (h.wait.lt e) (nm h.wait b e), above := h.above.stay (other _ h.above.lt (Ne.symm h.ne)), eqs := h.eqs.stay fun b e => other b (h.eqs.lt e) (nm h.eqs b e), ne := h.ne, seN := hn, small := h.small }, ?_⟩
  exact ⟨hg.os, hg.tape, hg.output, hg.size, fun b hb hn => other b hb hn⟩
theorem OL.neS {sz : Nat} {e : TypeId} {w : World} {v : Value} {n : Nat} {f : Nat → List Value} (h : OL sz e w v n f) {P : Program} {K : TypeId} {b k : Nat} {m : Value → Bool} (hm : MapS P K w b k m) : v.ownBlock ≠ some b := by
  intro hb
  obtain ⟨cs, hcs⟩ := h.elem hb
  obtain ⟨es, cl, he⟩ := hm.isMap
  exact blk_map he hcs
/-- One pair more waits. -/
theorem AW.pushWait (h : AW w p g x c N) {v : Value} (q : Nat × Nat) (hap : App x.vW v w w') (hol : OL 2 51 w' v (c.wt.length + 1) (prC (c.wt ++ [q]))) :
    AW (w'.setCell ⟨p, 2, none⟩ v) p g { x with vW := v } { c with wt := c.wt ++ [q] } N ∧ Mv (fun b => b = p ∨ x.vW.ownBlock = some b) w (w'.setCell ⟨p, 2, none⟩ v) := by
  have keep : ∀ b, b < w.heap.size → x.vW.ownBlock ≠ some b → b ≠ p → (w'.setCell ⟨p, 2, none⟩ v).heap[b]? = w.heap[b]? := fun b hb h1 h2 => (heap_setCell_other w' ⟨p, 2, none⟩ b v h2).trans (hap.other b hb h1)
  have hg : w'.heap[p]? = _ := (hap.other p h.lt (h.wait.neB h.blk (by decide))).trans h.blk
  have pm : ∀ {b : Nat}, (∃ es cl, w.heap[b]? = some (.map es cl)) → b ≠ p := by
    rintro b ⟨es, cl, he⟩ e'
    exact blk_map (e' ▸ he) h.blk
  refine ⟨{ blk := (heap_setCell_same w' p 2 _ 62 v hg).trans rfl, seen := h.seen.stay (keep _ h.seen.lt (h.wait.neS h.seen) (pm h.seen.isMap)), wait := ?_, above := h.above.stay (keep _ h.above.lt (h.wait.neM h.above) (pm h.above.isMap)), eqs := h.eqs.stay fun b e => keep b (h.eqs.lt e) (fun hc => h.eqs.ne h.wait (by decide) e hc) (fun e' => h.eqs.neB h.blk (by decide) (e' ▸ e)), ne := h.ne, seN := h.seN, small := h.small }, ?_⟩
  · show OL 2 51 _ v (c.wt ++ [q]).length (prC (c.wt ++ [q]))
    rw [List.length_append]
    exact hol.stay fun b hb => heap_setCell_other w' ⟨p, 2, none⟩ b v (fun e' => hol.neB hg (by decide) (by rw [hb, e']))
  · exact ⟨hap.os, hap.tape, hap.output, by simp; exact hap.size, fun b hb hn => keep b hb (fun hc => hn (Or.inr hc)) (fun e' => hn (Or.inl e'))⟩
/-- Fewer pairs wait. -/
theorem AW.popWait (h : AW w p g x c N) {v : Value} {l : List (Nat × Nat)} (hv : v.ownBlock = x.vW.ownBlock) (hol : OL 2 51 w v l.length (prC l)) :
    AW (w.setCell ⟨p, 2, none⟩ v) p g { x with vW := v } { c with wt := l } N ∧ Mv (fun b => b = p) w (w.setCell ⟨p, 2, none⟩ v) := by
  have keep : ∀ b, b ≠ p → (w.setCell ⟨p, 2, none⟩ v).heap[b]? = w.heap[b]? := fun b h2 => heap_setCell_other w ⟨p, 2, none⟩ b v h2
  have pm : ∀ {b : Nat}, (∃ es cl, w.heap[b]? = some (.map es cl)) → b ≠ p := by
    rintro b ⟨es, cl, he⟩ e'
    exact blk_map (e' ▸ he) h.blk
  refine ⟨{ blk := (heap_setCell_same w p 2 _ 62 v h.blk).trans rfl, seen := h.seen.stay (keep _ (pm h.seen.isMap)), wait := ?_, above := h.above.stay (keep _ (pm h.above.isMap)), eqs := h.eqs.stay fun b e => keep b (fun e' => h.eqs.neB h.blk (by decide) (e' ▸ e)), ne := h.ne, seN := h.seN, small := h.small }, ?_⟩
  · exact hol.stay fun b hb => keep b (fun e' => hol.neB h.blk (by decide) (by rw [hb, e']))
  · exact ⟨rfl, rfl, rfl, by simp, fun b hb hn => keep b hn⟩
/-- One equation more. -/
theorem AW.pushEqs (h : AW w p g x c N) {v : Value} (q : Int) (hap : App x.vE v w w') (hol : OL 1 3 w' v (c.eq.length + 1) (inC (c.eq ++ [q]))) :
    AW (w'.setCell ⟨p, 4, none⟩ v) p g { x with vE := v } { c with eq := c.eq ++ [q] } N ∧ Mv (fun b => b = p ∨ x.vE.ownBlock = some b) w (w'.setCell ⟨p, 4, none⟩ v) := by
  have keep : ∀ b, b < w.heap.size → x.vE.ownBlock ≠ some b → b ≠ p → (w'.setCell ⟨p, 4, none⟩ v).heap[b]? = w.heap[b]? := fun b hb h1 h2 => (heap_setCell_other w' ⟨p, 4, none⟩ b v h2).trans (hap.other b hb h1)
  have hg : w'.heap[p]? = _ := (hap.other p h.lt (h.eqs.neB h.blk (by decide))).trans h.blk
  have pm : ∀ {b : Nat}, (∃ es cl, w.heap[b]? = some (.map es cl)) → b ≠ p := by
    rintro b ⟨es, cl, he⟩ e'
    exact blk_map (e' ▸ he) h.blk
  refine ⟨{ blk := (heap_setCell_same w' p 4 _ 62 v hg).trans rfl, seen := h.seen.stay (keep _ h.seen.lt (h.eqs.neS h.seen) (pm h.seen.isMap)), wait := h.wait.stay fun b e => keep b (h.wait.lt e) (fun hc => h.wait.ne h.eqs (by decide) e hc) (fun e' => h.wait.neB h.blk (by decide) (e' ▸ e)), above := h.above.stay (keep _ h.above.lt (h.eqs.neM h.above) (pm h.above.isMap)), eqs := ?_, ne := h.ne, seN := h.seN, small := h.small }, ?_⟩
  · show OL 1 3 _ v (c.eq ++ [q]).length (inC (c.eq ++ [q]))
    rw [List.length_append]
    exact hol.stay fun b hb => heap_setCell_other w' ⟨p, 4, none⟩ b v (fun e' => hol.neB hg (by decide) (by rw [hb, e']))
  · exact ⟨hap.os, hap.tape, hap.output, by simp; exact hap.size, fun b hb hn => keep b hb (fun hc => hn (Or.inr hc)) (fun e' => hn (Or.inl e'))⟩
/-- The table of what lies above is turned. -/
theorem AW.turnAbove (h : AW w p g x c N) {ab : Nat → Option Nat} (ht : w.mapTurned w' x.bA) (hm : MapF Try.prog 3 3 w' x.bA N (abF ab)) : AW w' p g x { c with ab := ab } N ∧ Mv (fun b => b = x.bA) w w' := by
  have hg := ht.grown
  have other : ∀ b, b < w.heap.size → b ≠ x.bA → w'.heap[b]? = w.heap[b]? := fun b hb hne => hg.block b hb (fun e => hne (by injection e))
  obtain ⟨es, cl, hmap⟩ := h.above.isMap
  refine ⟨{ blk := (other _ h.lt (fun e => blk_map (e ▸ hmap) h.blk)).trans h.blk, seen := h.seen.stay (other _ h.seen.lt h.ne), wait := h.wait.stay fun b e => other b (h.wait.lt e) (fun e' => h.wait.neM h.above (e' ▸ e)), above := hm, eqs := h.eqs.stay fun b e => other b (h.eqs.lt e) (fun e' => h.eqs.neM h.above (e' ▸ e)), ne := h.ne, seN := h.seN, small := h.small }, ?_⟩
  exact ⟨hg.os, hg.tape, hg.output, hg.size, fun b hb hn => other b hb hn⟩
end
end Euf
end Go.Proofs.Ytmnpefiaelpkfac
/- Contracts of top and step; they prove no statement of the seat. -/
namespace Go.Proofs.Ytmnpefiaelpkfac
open Go.RowKit
set_option linter.unusedVariables false
namespace Euf
theorem lawInt : Maps.Keyed Try.prog 3 := Maps.int_keyed uInt
theorem keyInt {n : Nat} (h : n ≤ 9223372036854775807) : keyOf Try.prog 3 (.int .i64 (n : Nat)) = some (.int .i64 (n : Nat)) := Maps.keyOf_int_mk uInt (wfNat h)
theorem uAbove : Try.prog.underlying 60 = some (.map 3 3) := by kernel_rfl
section
variable {w : World} {p g : Nat} {x : Ax} {c : Ac} {N : Nat}
theorem AW.lookA (h : AW w p g x c N) (i : Nat) (hi : i ≤ 10000) {o : Option Nat} (ho : c.ab i = o) : (Instr.lookup 60 (.map (some x.bA)) (.int .i64 (i : Nat)) true).run Try.prog w = .ok (.tuple #[.int .i64 (o.getD 0 : Nat), .bool o.isSome]) w := by
  have := h.above.look lawInt uAbove uInt (zInt _) (keyInt (n := i) (by omega))
  rw [abF_at, ho] at this
  cases o <;> simpa using this
theorem AW.putA (h : AW w p g x c N) (i j : Nat) (hi : i < N) (hj : j ≤ 10000) (hd : ∀ k z, c.ab k = some z → k < N) : ∃ w', (Instr.mapUpdate 60 (.map (some x.bA)) (.int .i64 (i : Nat)) (.int .i64 (j : Nat))).run Try.prog w = .ok () w' ∧ AW w' p g x { c with ab := upd c.ab i (some j) } N ∧ Mv (fun b => b = x.bA) w w' := by
  have hs := h.small
  obtain ⟨w', hrun, hm, ht⟩ := h.above.put lawInt uAbove uInt (by unfold maxLen; omega) (keyInt (n := i) (by omega)) (x := (j : Nat)) (wfNat (by omega)) (abF (upd c.ab i (some j))) (by rw [abF_at, upd_same]; rfl) (abF_other (fun k hk => upd_other _ _ hk))
  have hm2 := hm.tightBy lawInt N (fun v => match v with | .int _ z => z.toNat | _ => 0) (fun k z hz => by
    obtain ⟨a, b, rfl, h1, rfl⟩ := abF_some hz
    show (Int.toNat (a : Int)) < N
    rw [Int.toNat_natCast]
    by_cases e : a = i
    · omega
    · rw [upd_other _ _ e] at h1; exact hd a b h1) (fun k k' z z' hz hz' e => by
    obtain ⟨a, b, rfl, h1, rfl⟩ := abF_some hz
    obtain ⟨a', b', rfl, h1', rfl⟩ := abF_some hz'
    have e2 : Int.toNat (a : Int) = Int.toNat (a' : Int) := e
    rw [Int.toNat_natCast, Int.toNat_natCast] at e2
    rw [e2])
  obtain ⟨k1, k2⟩ := h.turnAbove ht hm2
  exact ⟨w', hrun, k1, k2⟩
end
/-- What 'top' tells. -/
def TopEnd (S : Nat → Spot) (p g : Nat) (x : Ax) (c : Ac) (N : Nat) (i R : Nat) (w w' : World) : Prop :=
  R < N ∧ Up S (AbG c.ab) i R ∧ ¬ AbG c.ab R ∧ ∃ ab', AW w' p g x { c with ab := ab' } N ∧ AbOk N S ab' ∧ (∀ k, AbG ab' k ↔ AbG c.ab k) ∧ Mv (fun b => b = x.bA) w w'

set_option maxRecDepth 20000 in
set_option maxHeartbeats 8000000 in
theorem top_any (S : Nat → Spot) (p g : Nat) (x : Ax) (c : Ac) (N i n : Nat) (w : World) (h : AW w p g x c N) (hab : AbOk N S c.ab) (hi : i < N) (hu : Ups S (i : Int) n) :
    Calls Try.prog 34 #[.pointer (some ⟨p, 0, none⟩), .int .i64 (i : Nat)] w fun e w' => ∃ R : Nat, e = .returned (.int .i64 (R : Nat)) ∧ TopEnd S p g x c N i R w w' := by
  have HA : Hid (AbOk N S c.ab) := hab
  have HU : Hid (Ups S (i : Int) n) := hu
  have hN := h.small
  clear hab hu
  go_enter Try.func34, Try.ntmps34
  go_wp2
  go_loopg [1] n (fun gk v1 wr => ∃ (j : Nat) (ab' : Nat → Option Nat), v1 = .int .i64 (j : Nat) ∧ Hid (Ups S (j : Int) gk ∧ j < N ∧ Up S (AbG c.ab) i j ∧ AbOk N S ab' ∧ (∀ k, AbG ab' k ↔ AbG c.ab k)) ∧ AW wr p g x { c with ab := ab' } N ∧ Mv (fun b => b = x.bA) w wr)
  case atStart => exact ⟨i, c.ab, rfl, ⟨HU.out, hi, .refl _, HA.out, fun k => Iff.rfl⟩, h, Mv.refl _ _⟩
  case round =>
    clear h hi
    obtain ⟨j, ab', rfl, HR, hC, hM⟩ := hrel
    have hj := HR.out.2.1
    obtain ⟨-, -, -, c3, -⟩ := hC.cells
    have hpl := hC.lt
    cases h1 : ab' j with
    | none =>
      have l1 := hC.lookA j (by omega) h1
      simp only [Option.getD_none, Option.isSome_none] at l1
      have HN : Hid (¬ AbG c.ab j) := fun h9 => by
        have := (HR.out.2.2.2.2 j).2 h9
        unfold AbG at this
        rw [h1] at this
        cases this
      clear h1
      go_wp2
      refine bodyPost_ret (v := .int .i64 (j : Nat)) (by simp [results, Try.results34, go_sem]) rfl ?_
      exact ⟨j, rfl, hj, HR.out.2.2.1, HN.out, ab', hC, HR.out.2.2.2.1, HR.out.2.2.2.2, hM⟩
    | some k =>
      have l1 := hC.lookA j (by omega) h1
      simp only [Option.getD_some, Option.isSome_some] at l1
      obtain ⟨-, hk, y, hy1, hy2, hy3⟩ := HR.out.2.2.2.1.up j k h1
      have hp := HR.out.2.2.2.1.path h1
      obtain ⟨m, HM⟩ : ∃ m, Hid (Ups S (k : Int) m ∧ m < gk) := by
        obtain ⟨m', e1, e2⟩ := HR.out.1.nat
        rw [hy1] at e2
        obtain ⟨m, e3, e4, _⟩ := hy3.short e2
        exact ⟨m, e3, by omega⟩
      have HP : Hid (Up S (AbG c.ab) i k) := HR.out.2.2.1.trans (hp.mono (fun q hq => (HR.out.2.2.2.2 q).1 hq))
      clear hy1 hy2 hy3 hp y
      cases h2 : ab' k with
      | none =>
        have l2 := hC.lookA k (by omega) h2
        simp only [Option.getD_none, Option.isSome_none] at l2
        clear h1 h2
        go_wp2
        go_roundg m
        case measure => exact HM.out.2
        case rel => exact ⟨k, ab', rfl, ⟨HM.out.1, hk, HP.out, HR.out.2.2.2.1, HR.out.2.2.2.2⟩, hC, hM⟩
      | some q =>
        have l2 := hC.lookA k (by omega) h2
        simp only [Option.getD_some, Option.isSome_some] at l2
        obtain ⟨-, hq, -⟩ := HR.out.2.2.2.1.up k q h2
        obtain ⟨b1, b2⟩ := HR.out.2.2.2.1.higher h1 h2
        have HB : Hid (AbOk N S (upd ab' j (some q)) ∧ (∀ k, AbG (upd ab' j (some q)) k ↔ AbG c.ab k)) := ⟨b1, fun k => (b2 k).trans (HR.out.2.2.2.2 k)⟩
        obtain ⟨w5, hrun, hC5, hM5⟩ := hC.putA j q hj (by omega) (fun k z hz => (HR.out.2.2.2.1.up k z hz).1)
        replace hM5 := hM.trans hM5 (fun b hb => Or.inl hb)
        clear h1 h2 b1 b2
        go_wp2
        go_roundg m
        case measure => exact HM.out.2
        case rel => exact ⟨k, _, rfl, ⟨HM.out.1, hk, HP.out, HB.out.1, HB.out.2⟩, hC5, hM5⟩
end Euf
end Go.Proofs.Ytmnpefiaelpkfac
/- Contracts of top and step beside the graph; they prove no statement of the seat. -/
namespace Go.Proofs.Ytmnpefiaelpkfac
open Go.RowKit
set_option linter.unusedVariables false
namespace Euf
/-- The graph and what is kept while one goes after why. -/
structure EX (w : World) (p g : Nat) (x : Ax) (c : Ac) (d : Gd) : Prop where
  gw : GW w g d
  aw : AW w p g x c d.s.ns
  ap : ∀ b, Fy p x b → ¬ Fh g d b
section
variable {w w' : World} {p g : Nat} {x x' : Ax} {c c' : Ac} {d : Gd}
theorem EX.below (h : EX w p g x c d) (hb : Below w.heap.size w w') : EX w' p g x c d := ⟨h.gw.below hb, h.aw.below hb, h.ap⟩
theorem EX.mv (h : EX w p g x c d) {F : Nat → Prop} (hM : Mv F w w') (hF : ∀ b, F b → Fy p x b ∨ w.heap.size ≤ b) (ha : AW w' p g x' c' d.s.ns) (hy : ∀ b, Fy p x' b → Fy p x b ∨ w.heap.size ≤ b) : EX w' p g x' c' d := by
  refine ⟨h.gw.keep (fun b hb => hM.other b (h.gw.hlt hb) (fun hf => ?_)), ha, fun b hb hf => ?_⟩
  · rcases hF b hf with h9 | h9
    · exact h.ap b h9 hb
    · have := h.gw.hlt hb; omega
  · rcases hy b hb with h9 | h9
    · exact h.ap b h9 hf
    · have := h.gw.hlt hf; omega
end
/-- What 'top' leaves beside the graph. -/
theorem TopEnd.ex {w w' : World} {p g : Nat} {x : Ax} {c : Ac} {d : Gd} {i R : Nat} (h : EX w p g x c d) (ht : TopEnd d.s.S p g x c d.s.ns i R w w') : R < d.s.ns ∧ Up d.s.S (AbG c.ab) i R ∧ ¬ AbG c.ab R ∧ ∃ ab', EX w' p g x { c with ab := ab' } d ∧ AbOk d.s.ns d.s.S ab' ∧ (∀ k, AbG ab' k ↔ AbG c.ab k) ∧ Mv (fun b => b = x.bA) w w' := by
  obtain ⟨h1, h2, h3, ab', h4, h5, h6, h7⟩ := ht
  exact ⟨h1, h2, h3, ab', h.mv h7 (fun b hb => Or.inl (Or.inr (Or.inr (Or.inl hb)))) h4 (fun b hb => Or.inl hb), h5, h6, h7⟩

set_option maxRecDepth 20000 in
set_option maxHeartbeats 8000000 in
theorem step_any (p g : Nat) (x : Ax) (c : Ac) (d : Gd) (k : Nat) (w : World) (h : EX w p g x c d) (hI : Inv d.f.np d.f.P d.s.ns d.s.S d.s.sg [] []) (hab : AbOk d.s.ns d.s.S c.ab) (hk : k < d.s.ns) :
    Calls Try.prog 35 #[.pointer (some ⟨p, 0, none⟩), .int .i64 (k : Nat)] w fun e w' => ∃ a : Int, e = .returned (.int .i64 a) ∧ Next d.s.ns d.s.S (AbG c.ab) k a ∧ ∃ ab', EX w' p g x { c with ab := ab' } d ∧ AbOk d.s.ns d.s.S ab' ∧ (∀ k, AbG ab' k ↔ AbG c.ab k) ∧ Mv (fun b => b = x.bA) w w' := by
  have HE : Hid (EX w p g x c d) := h
  have HA : Hid (AbOk d.s.ns d.s.S c.ab) := hab
  have HI : Hid (Inv d.f.np d.f.P d.s.ns d.s.S d.s.sg [] []) := hI
  obtain ⟨q0, -, -, -, -⟩ := h.aw.cells
  obtain ⟨gs, cap, hv, hc1, hc2⟩ := h.gw.cw.spotsAt hk
  obtain ⟨-, -, -, -, -, -, -, c7, -, -⟩ := h.gw.cw.cells
  rw [hv] at c7
  obtain ⟨-, -, f2, -, -, -, -⟩ := h.gw.cw.spot hv hk
  have hpl := h.aw.lt
  have hgl := h.gw.cw.lt
  have hgs := h.gw.cw.ltS hv
  have hN := h.aw.small
  have hkI : (k : Int) < (d.s.ns : Int) := by omega
  clear h hab hI hv
  by_cases hu : (d.s.S k).up = -1
  · rw [hu] at f2
    have HU : Hid ((d.s.S k).up = -1) := hu
    clear hu
    go_enter Try.func35, Try.ntmps35
    go_wp2
    refine bodyPost_ret (v := .int .i64 (-1)) (by simp [results, Try.results35, go_sem]) rfl ?_
    exact ⟨-1, rfl, Or.inl ⟨rfl, HU.out⟩, c.ab, HE.out, HA.out, fun k => Iff.rfl, Mv.refl _ _⟩
  · obtain ⟨h1, h2, -⟩ := HI.out.upc k hk hu
    obtain ⟨y, hy⟩ : ∃ y : Nat, (d.s.S k).up = (y : Int) := ⟨(d.s.S k).up.toNat, by omega⟩
    rw [hy] at f2
    have hyn : y < d.s.ns := by rw [hy] at h2; simpa using h2
    have HU : Hid ((d.s.S k).up = (y : Int)) := hy
    obtain ⟨n, hn⟩ := HI.out.ups y hyn
    have HN : Hid (Ups d.s.S (y : Int) n) := hn
    have hne : ¬ ((y : Int) = -1) := by omega
    clear hu h1 h2 hy hn
    go_enter Try.func35, Try.ntmps35
    go_wp2_with fail
    refine (top_any d.s.S p g x c d.s.ns y n w HE.out.aw HA.out hyn HN.out).mono ?_
    rintro e w1 ⟨R, rfl, hT⟩
    have HT : Hid _ := hT.ex HE.out
    clear hT
    go_wp2
    refine bodyPost_ret (v := .int .i64 (R : Nat)) (by simp [results, Try.results35, go_sem]) rfl ?_
    obtain ⟨t1, t2, t3, ab', t4, t5, t6, t7⟩ := HT.out
    exact ⟨R, rfl, Or.inr ⟨R, y, rfl, t1, HU.out, t2, t3⟩, ab', t4, t5, t6, t7⟩
end Euf
end Go.Proofs.Ytmnpefiaelpkfac
/- The contract of meeting; it proves no statement of the seat. -/
namespace Go.Proofs.Ytmnpefiaelpkfac
open Go.RowKit
set_option linter.unusedVariables false
namespace Euf
def psF (ps : Nat → Bool) : Value → Bool
  | .int .i64 z => if 0 ≤ z then ps z.toNat else false
  | _ => false
theorem psF_at (ps : Nat → Bool) (i : Nat) : psF ps (.int .i64 (i : Nat)) = ps i := by simp [psF]
theorem psF_true {ps : Nat → Bool} {v : Value} (h : psF ps v = true) : ∃ i : Nat, v = .int .i64 (i : Nat) ∧ ps i = true := by
  unfold psF at h
  split at h
  · rename_i x
    split at h
    · rename_i hx
      exact ⟨x.toNat, by rw [Int.toNat_of_nonneg hx], h⟩
    · cases h
  · cases h
theorem psF_other {ps ps' : Nat → Bool} {i : Nat} (h : ∀ k, k ≠ i → ps' k = ps k) : ∀ v, v ≠ Value.int .i64 (i : Nat) → psF ps' v = psF ps v := by
  intro v hv
  unfold psF
  split
  · rename_i x
    split
    · rename_i hx
      rw [h x.toNat (fun e => hv (by rw [← e, Int.toNat_of_nonneg hx]))]
    · rfl
  · rfl
theorem uPass : Try.prog.underlying 94 = some (.map 3 92) := by kernel_rfl
theorem zUnit (w : World) : (zeroValue 92).run Try.prog w = .ok (.agg #[]) w := by kernel_rfl
theorem pass_put {w : World} {b N : Nat} {ps : Nat → Bool} (h : MapS Try.prog 3 w b N (psF ps)) (k : Nat) (hk : k < N) (hN : N ≤ 10000) (hp : ∀ i, ps i = true → i < N) : ∃ w', (Instr.mapUpdate 94 (.map (some b)) (.int .i64 (k : Nat)) (.agg #[])).run Try.prog w = .ok () w' ∧ MapS Try.prog 3 w' b N (psF (fun i => i == k || ps i)) ∧ w.mapTurned w' b := by
  obtain ⟨w', hrun, hm, ht⟩ := h.put lawInt uPass (by unfold maxLen; omega) (keyInt (n := k) (by omega)) (psF (fun i => i == k || ps i)) (by rw [psF_at]; simp) (psF_other (fun i hi => by simp [hi]))
  refine ⟨w', hrun, hm.tightBy lawInt N (fun v => match v with | .int _ z => z.toNat | _ => 0) (fun v hv => ?_) (fun v v' hv hv' e => ?_), ht⟩
  · obtain ⟨i, rfl, h1⟩ := psF_true hv
    show (Int.toNat (i : Int)) < N
    rw [Int.toNat_natCast]
    simp at h1
    rcases h1 with rfl | h1
    · exact hk
    · exact hp i h1
  · obtain ⟨i, rfl, h1⟩ := psF_true hv
    obtain ⟨j, rfl, h2⟩ := psF_true hv'
    have e2 : Int.toNat (i : Int) = Int.toNat (j : Int) := e
    rw [Int.toNat_natCast, Int.toNat_natCast] at e2
    rw [e2]
/-- The measure of a part's way up. -/
theorem next_ups {ns : Nat} {S : Nat → Spot} {G : Nat → Prop} {k n : Nat} {a : Int} (hn : Ups S (k : Int) n) (h : Next ns S G k a) : ∃ m, Ups S a m ∧ m < n := by
  obtain ⟨m, e, hm⟩ := hn.nat
  rcases h with ⟨rfl, _⟩ | ⟨k', y, rfl, _, h1, h2, _⟩
  · exact ⟨0, .top, by omega⟩
  · rw [h1] at hm
    obtain ⟨q, hq, h3, _⟩ := h2.short hm
    exact ⟨q, hq, by omega⟩

set_option maxRecDepth 20000 in
set_option maxHeartbeats 16000000 in
theorem meeting_any (p g : Nat) (x : Ax) (c : Ac) (d : Gd) (a b : Nat) (w : World) (h : EX w p g x c d) (hI : Inv d.f.np d.f.P d.s.ns d.s.S d.s.sg [] []) (hab : AbOk d.s.ns d.s.S c.ab) (ha : a < d.s.ns) (hb : b < d.s.ns) (hr : ∃ r, Anc d.s.S a r ∧ Anc d.s.S b r) :
    Calls Try.prog 24 #[.pointer (some ⟨p, 0, none⟩), .int .i64 (a : Nat), .int .i64 (b : Nat)] w fun e w' => ∃ M : Nat, e = .returned (.int .i64 (M : Nat)) ∧ M < d.s.ns ∧ Anc d.s.S a M ∧ Anc d.s.S b M ∧ ¬ AbG c.ab M ∧ ∃ ab', EX w' p g x { c with ab := ab' } d ∧ AbOk d.s.ns d.s.S ab' ∧ (∀ k, AbG ab' k ↔ AbG c.ab k) ∧ Mv (fun b => b = x.bA) w w' := by
  have HE : Hid (EX w p g x c d) := h
  have HA : Hid (AbOk d.s.ns d.s.S c.ab) := hab
  have HI : Hid (Inv d.f.np d.f.P d.s.ns d.s.S d.s.sg [] []) := hI
  have hN := h.aw.small
  obtain ⟨na0, hna0⟩ := hI.ups a ha
  obtain ⟨nb0, hnb0⟩ := hI.ups b hb
  obtain ⟨RC, HRC⟩ : ∃ RC, Hid (Anc d.s.S a RC ∧ Anc d.s.S b RC ∧ ¬ AbG c.ab RC) := by
    obtain ⟨r, r1, r2⟩ := hr
    obtain ⟨m, hm⟩ := anc_ups r1 ⟨na0, hna0⟩
    have hrn : r < d.s.ns := by
      have : ∀ {y z : Nat}, Anc d.s.S y z → y < d.s.ns → z < d.s.ns := by
        intro y z hyz
        induction hyz with
        | refl => exact id
        | step _ e _ ih =>
          intro hy
          have h9 := hI.upc _ hy (by omega)
          rw [e] at h9
          exact ih (by simpa using h9.2.1)
      exact this r1 ha
    obtain ⟨R, k1, k2, k3⟩ := hab.first m r hrn hm
    exact ⟨R, r1.trans k2.anc, r2.trans k2.anc, k3⟩
  have HUP : Hid (Ups d.s.S (a : Int) na0 ∧ Ups d.s.S (b : Int) nb0) := ⟨hna0, hnb0⟩
  have HFY : Hid (∀ q, (Fy p x q ∨ Fh g d q) → q < w.heap.size) := fun q hq => hq.elim (fun h9 => h.aw.fyLt h9) (fun h9 => h.gw.hlt h9)
  have hb0 : Below w.heap.size w (w.alloc (.map #[] 0)) := (Below.refl _ _).alloc (Nat.le_refl _) _
  have hP0 := MapS.made w Try.prog 3
  have hE0 := h.below hb0
  have hmm := @run_makeMap Try.prog
  clear h hab hI hr hna0 hnb0
  go_enter Try.func24, Try.ntmps24
  go_wp2_with fail
  refine (top_any d.s.S p g x c d.s.ns a na0 _ hE0.aw HA.out ha HUP.out.1).mono ?_
  rintro e w1 ⟨ra, rfl, hT⟩
  obtain ⟨t1, t2, t3, ab1, hE1, t5, t6, hM1⟩ := hT.ex hE0
  have HT1 : Hid (ra < d.s.ns ∧ Up d.s.S (AbG c.ab) a ra ∧ ¬ AbG c.ab ra ∧ AbOk d.s.ns d.s.S ab1 ∧ (∀ k, AbG ab1 k ↔ AbG c.ab k)) := ⟨t1, t2, t3, t5, t6⟩
  have hPA : w.heap.size ≠ x.bA := fun e => by have := HFY.out x.bA (Or.inl (Or.inr (Or.inr (Or.inl rfl)))); omega
  have hP1 := hP0.stay (hM1.other _ hP0.lt hPA)
  have hW1 : Mv (fun q => q = x.bA) w w1 := (Mv.below (F := fun q => q = x.bA) hb0).trans hM1 (fun q hq => Or.inl hq)
  clear hT t1 t2 t3 t5 t6 hM1 hE0 hP0 hb0
  go_wp2_with fail
  refine (top_any d.s.S p g x { c with ab := ab1 } d.s.ns b nb0 w1 hE1.aw HT1.out.2.2.2.1 hb HUP.out.2).mono ?_
  rintro e w2 ⟨rb, rfl, hT⟩
  obtain ⟨t1, t2, t3, ab2, hE2, t5, t6, hM2⟩ := hT.ex hE1
  have hP2 := hP1.stay (hM2.other _ hP1.lt hPA)
  have hW2 : Mv (fun q => q = x.bA) w w2 := hW1.trans hM2 (fun q hq => Or.inl hq)
  obtain ⟨na, nb, HNN⟩ : ∃ na nb, Hid (Ups d.s.S (ra : Int) na ∧ Ups d.s.S (rb : Int) nb) := by
    obtain ⟨m1, k1, _⟩ := HT1.out.2.1.short HUP.out.1
    obtain ⟨m2, k2, _⟩ := t2.short HUP.out.2
    exact ⟨m1, m2, k1, k2⟩
  have HT2 : Hid (Mt d.s.ns d.s.S (AbG c.ab) a b (ra : Int) (rb : Int) (fun i => (fun _ => false) i = true) ∧ AbOk d.s.ns d.s.S ab2 ∧ ∀ k, AbG ab2 k ↔ AbG c.ab k) := by
    have q1 : Up d.s.S (AbG c.ab) b rb := t2.mono (fun k hk => (HT1.out.2.2.2.2 k).1 hk)
    have q2 : ¬ AbG c.ab rb := fun h9 => t3 ((HT1.out.2.2.2.2 rb).2 h9)
    have q3 := Mt.start (G := AbG c.ab) HI.out.ups ha hb HT1.out.2.1 HT1.out.2.2.1 HT1.out.1 q1 q2 t1
    refine ⟨⟨q3.ca, q3.cb, (fun i hi => by cases hi), fun i h4 h5 h6 => (q3.covA i h4 h5 h6).elim, fun i h4 h5 h6 => (q3.covB i h4 h5 h6).elim, q3.dis⟩, t5, fun k => (t6 k).trans (HT1.out.2.2.2.2 k)⟩
  clear hT t1 t2 t3 t5 t6 hM2 hE1 HT1 hP1 hW1
  go_wp2
  go_loopg [1, 2] (2 * (na + nb)) (fun gk v1 v2 wr => ∃ (A B : Nat) (a' b' : Int) (ps : Nat → Bool) (ab' : Nat → Option Nat) (n1 n2 : Nat), v1 = .int .i64 a' ∧ v2 = .int .i64 b' ∧ Hid (((A = a ∧ B = b) ∨ (A = b ∧ B = a)) ∧ Mt d.s.ns d.s.S (AbG c.ab) A B a' b' (fun i => ps i = true) ∧ AbOk d.s.ns d.s.S ab' ∧ (∀ k, AbG ab' k ↔ AbG c.ab k) ∧ Ups d.s.S a' n1 ∧ Ups d.s.S b' n2 ∧ 2 * (n1 + n2) + (if a' = -1 then 1 else 0) = gk) ∧ EX wr p g x { c with ab := ab' } d ∧ MapS Try.prog 3 wr w.heap.size d.s.ns (psF ps) ∧ Mv (fun q => q = x.bA) w wr)
  case atStart =>
    refine ⟨a, b, ra, rb, fun _ => false, ab2, na, nb, rfl, rfl, ⟨Or.inl ⟨rfl, rfl⟩, HT2.out.1, HT2.out.2.1, HT2.out.2.2, HNN.out.1, HNN.out.2, by rw [if_neg (by omega)]; omega⟩, hE2, ?_, hW2⟩
    have e : psF (fun _ => false) = fun _ => false := by
      funext v
      unfold psF
      split
      · split <;> rfl
      · rfl
    rw [e]; exact hP2.mono (Nat.zero_le _)
  case round =>
    clear hE2 hP2 hW2 HT2 HNN
    obtain ⟨A, B, a', b', ps, ab', n1, n2, rfl, rfl, HR, hE, hP, hM⟩ := hrel
    by_cases hm : a' = -1
    · subst hm
      have hb' : b' ≠ -1 := by
        rcases HR.out.1 with ⟨e1, e2⟩ | ⟨e1, e2⟩
        · exact HR.out.2.1.more (by rw [e1]; exact HRC.out.1) (by rw [e2]; exact HRC.out.2.1) HRC.out.2.2
        · exact HR.out.2.1.more (by rw [e1]; exact HRC.out.2.1) (by rw [e2]; exact HRC.out.1) HRC.out.2.2
      have HB : Hid (b' ≠ -1) := hb'
      have HG : Hid (2 * (n1 + n2) + 1 = gk) := by
        have h9 := HR.out.2.2.2.2.2.2
        rw [if_pos rfl] at h9
        exact h9
      clear hb'
      go_wp2
      go_roundg (2 * (n2 + n1) + (if b' = -1 then 1 else 0))
      case measure =>
        have h9 := HG.out
        rw [if_neg HB.out]; omega
      case rel =>
        exact ⟨B, A, b', -1, ps, ab', n2, n1, rfl, rfl, ⟨HR.out.1.elim (fun h9 => Or.inr ⟨h9.2, h9.1⟩) (fun h9 => Or.inl ⟨h9.2, h9.1⟩), HR.out.2.1.swap, HR.out.2.2.1, HR.out.2.2.2.1, HR.out.2.2.2.2.2.1, HR.out.2.2.2.2.1, rfl⟩, hE, hP, hM⟩
    · obtain ⟨k, rfl, hk⟩ : ∃ k : Nat, a' = (k : Int) ∧ k < d.s.ns := by
        rcases HR.out.2.1.ca with h9 | ⟨k, h9, h8, _⟩
        · exact absurd h9 hm
        · exact ⟨k, h9, h8⟩
      have hlk := hP.look lawInt uPass (zUnit _) (keyInt (n := k) (by omega))
      rw [psF_at] at hlk
      have hpl := hP.lt
      cases hps : ps k with
      | true =>
        rw [hps] at hlk
        have HF : Hid _ := HR.out.2.1.found hps
        clear hps
        go_wp2
        refine bodyPost_ret (v := .int .i64 (k : Nat)) (by simp [results, Try.results24, go_sem]) rfl ?_
        obtain ⟨f1, f2, f3, f4⟩ := HF.out
        have hbx : Below wr.heap.size wr (wr.alloc (.cells #[] 92 (0, 0))) := (Below.refl _ _).alloc (Nat.le_refl _) _
        refine ⟨k, rfl, f4, ?_, ?_, f3, ab', hE.below hbx, HR.out.2.2.1, HR.out.2.2.2.1, hM.trans (Mv.below hbx) (fun q hq => Or.inl hq)⟩
        · rcases HR.out.1 with ⟨e1, e2⟩ | ⟨e1, e2⟩
          · rw [← e1]; exact f1
          · rw [← e2]; exact f2
        · rcases HR.out.1 with ⟨e1, e2⟩ | ⟨e1, e2⟩
          · rw [← e2]; exact f2
          · rw [← e1]; exact f1
      | false =>
        rw [hps] at hlk
        have HPS : Hid (¬ ps k = true) := by show ¬ _; rw [hps]; simp
        clear hps
        have hbx : Below wr.heap.size wr (wr.alloc (.cells #[] 92 (0, 0))) := (Below.refl _ _).alloc (Nat.le_refl _) _
        have hEx := hE.below hbx
        have hPx := hP.stay (hbx.block _ hpl)
        have hMx : Mv (fun q => q = x.bA) w (wr.alloc (.cells #[] 92 (0, 0))) := hM.trans (Mv.below hbx) (fun q hq => Or.inl hq)
        obtain ⟨w5, hrun, hP5, ht5⟩ := pass_put hPx k hk hN (fun i hi => (HR.out.2.1.sub i hi).1)
        have hg5 := ht5.grown
        have h5o : ∀ q, q < (wr.alloc (.cells #[] 92 (0, 0))).heap.size → q ≠ w.heap.size → w5.heap[q]? = (wr.alloc (.cells #[] 92 (0, 0))).heap[q]? := fun q hq hne => hg5.block q hq (fun e => hne (by injection e))
        have hE5 : EX w5 p g x { c with ab := ab' } d := ⟨hEx.gw.keep (fun q hq => h5o q (hEx.gw.hlt hq) (fun e => by have := HFY.out q (Or.inr hq); omega)), hEx.aw.keep (fun q hq => h5o q (hEx.aw.fyLt hq) (fun e => by have := HFY.out q (Or.inl hq); omega)), hEx.ap⟩
        have hM5 : Mv (fun q => q = x.bA) w w5 := ⟨hg5.os.trans hMx.os, hg5.tape.trans hMx.tape, hg5.output.trans hMx.output, Nat.le_trans hMx.size hg5.size, fun q hq hn => (h5o q (Nat.lt_of_lt_of_le hq hMx.size) (by omega)).trans (hMx.other q hq hn)⟩
        clear hEx hPx hMx hg5 h5o ht5 hE hP hM
        have hpl5 := hE5.aw.lt
        have hkne : ¬ ((k : Int) = -1) := by omega
        go_wp2_with fail
        refine (step_any p g x { c with ab := ab' } d k w5 hE5 HI.out HR.out.2.2.1 hk).mono ?_
        rintro e w6 ⟨a6, rfl, hnx, ab6, hE6, q1, q2, hM6⟩
        have hP6 := hP5.stay (hM6.other _ hP5.lt hPA)
        have hM7 := hM5.trans hM6 (fun q hq => Or.inl hq)
        have HQ : Hid (Next d.s.ns d.s.S (AbG c.ab) k a6 ∧ AbOk d.s.ns d.s.S ab6 ∧ ∀ k, AbG ab6 k ↔ AbG c.ab k) := by
          refine ⟨hnx.imp id ?_, q1, fun k => (q2 k).trans (HR.out.2.2.2.1 k)⟩
          rintro ⟨k', y, r1, r2, r3, r4, r5⟩
          exact ⟨k', y, r1, r2, r3, r4.mono (fun i hi => (HR.out.2.2.2.1 i).1 hi), fun h9 => r5 ((HR.out.2.2.2.1 k').2 h9)⟩
        clear hnx q1 q2 hM6 hE5 hP5 hM5
        obtain ⟨m6, HM6⟩ : ∃ m, Hid (Ups d.s.S a6 m ∧ m < n1) := next_ups HR.out.2.2.2.2.1 HQ.out.1
        go_wp2
        go_roundg (2 * (n2 + m6) + (if b' = -1 then 1 else 0))
        case measure =>
          have h9 := HR.out.2.2.2.2.2.2
          rw [if_neg (by omega)] at h9
          have h8 := HM6.out.2
          split <;> omega
        case rel =>
          have hAn : A < d.s.ns := by rcases HR.out.1 with ⟨e1, _⟩ | ⟨e1, _⟩ <;> omega
          have hv := HR.out.2.1.visit HI.out.ups hAn HPS.out HQ.out.1
          refine ⟨B, A, b', a6, fun i => i == k || ps i, ab6, n2, m6, rfl, rfl, ⟨HR.out.1.elim (fun h9 => Or.inr ⟨h9.2, h9.1⟩) (fun h9 => Or.inl ⟨h9.2, h9.1⟩), ?_, HQ.out.2.1, HQ.out.2.2, HR.out.2.2.2.2.2.1, HM6.out.1, rfl⟩, hE6, hP6, hM7⟩
          have e : (fun i => (fun i => i == k || ps i) i = true) = fun i => i = k ∨ ps i = true := by
            funext i; simp
          rw [e]; exact hv.swap
end Euf
end Go.Proofs.Ytmnpefiaelpkfac
