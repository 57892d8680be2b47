/- Words for the walks: what a slice of numbers holds in a world; no statement of the seat is proved here. -/
import Derived.WalkKit
import Derived.WalkSpells
import Derived.WalkLawsBesides
import Derived.Handy
import Derived.Laws.CopyOwn
namespace Go.Proofs.Ytlonnhnfmcndfad
open Go.RowKit

/-- The cells of a slice that begins at 'ao' hold the numbers xs. -/
def Seg (k : IntKind) (w : World) (ao : Option Addr) (xs : List Nat) : Prop :=
  xs = [] ∨ ∃ b off, ao = some ⟨b, off, none⟩ ∧ ∀ i, i < xs.length → w.cell? ⟨b, off + i, none⟩ = some (.int k (xs.getD i 0 : Nat))

theorem Seg.nil (k : IntKind) (w : World) (ao : Option Addr) : Seg k w ao [] := Or.inl rfl

theorem Seg.open {k : IntKind} {w : World} {ao : Option Addr} {xs : List Nat} (h : Seg k w ao xs) (i : Nat) (hi : i < xs.length) :
    ∃ b off, ao = some ⟨b, off, none⟩ ∧ ∀ j, j < xs.length → w.cell? ⟨b, off + j, none⟩ = some (.int k (xs.getD j 0 : Nat)) := by
  rcases h with h | h
  · subst h; simp at hi
  · exact h

theorem Seg.below {k : IntKind} {w w' : World} {ao : Option Addr} {xs : List Nat} (h : Seg k w ao xs) (hb : Below w.heap.size w w') : Seg k w' ao xs := by
  rcases h with h | ⟨b, off, rfl, hc⟩
  · exact Or.inl h
  · refine Or.inr ⟨b, off, rfl, fun i hi => ?_⟩
    have h1 := hc i hi
    have h2 : b < w.heap.size := World.block_lt_of_cell? w ⟨b, off + i, none⟩ h1
    rw [hb.cell (p := ⟨b, off + i, none⟩) h2]
    exact h1

theorem Seg.take {k : IntKind} {w : World} {ao : Option Addr} {xs : List Nat} (h : Seg k w ao xs) (n : Nat) : Seg k w ao (xs.take n) := by
  rcases h with h | ⟨b, off, rfl, hc⟩
  · subst h; exact Or.inl (by simp)
  · refine Or.inr ⟨b, off, rfl, fun i hi => ?_⟩
    simp only [List.length_take] at hi
    have e : (xs.take n).getD i 0 = xs.getD i 0 := by
      simp only [List.getD_eq_getElem?_getD, List.getElem?_take]
      rw [if_pos (by omega)]
    rw [hc i (by omega), e]

/-- Block g is a row of numbers, all its cells, and may be written. -/
def Row (k : IntKind) (t : TypeId) (w : World) (g : Nat) (zs : List Nat) : Prop :=
  w.heap[g]? = some (.cells (zs.map fun z => Value.int k (z : Nat)).toArray t (0, 0))

section
variable {k : IntKind} {t : TypeId} {w w' : World} {g : Nat} {zs : List Nat}

theorem Row.cell (h : Row k t w g zs) (i : Nat) (hi : i < zs.length) : w.cell? ⟨g, i, none⟩ = some (.int k (zs.getD i 0 : Nat)) := by
  rw [cell_of_row w g i _ t (0, 0) h]
  simp [List.getElem?_eq_getElem hi]

theorem Row.frozen (h : Row k t w g zs) (i : Nat) : w.frozen? ⟨g, i, none⟩ = false := frozen_of_row w g i _ t h

theorem Row.set (h : Row k t w g zs) (i : Nat) (z : Int) (n : Nat) (hz : z = (n : Int)) : Row k t (w.setCell ⟨g, i, none⟩ (.int k z)) g (zs.set i n) := by
  subst hz
  unfold Row
  rw [heap_setCell_same w g i _ t _ h]
  simp

theorem Row.keep (h : Row k t w g zs) {B : Nat} (hb : Below B w w') (hg : g < B) : Row k t w' g zs := (hb.block g hg).trans h

theorem Row.new (w : World) (k : IntKind) (t : TypeId) (zs : List Nat) : Row k t (w.alloc (.cells (zs.map fun z => Value.int k (z : Nat)).toArray t (0, 0))) w.heap.size zs := heap_alloc_new w _

theorem Row.seg (h : Row k t w g zs) (off n : Nat) (hn : off + n ≤ zs.length) : Seg k w (some ⟨g, off, none⟩) ((zs.drop off).take n) := by
  refine Or.inr ⟨g, off, rfl, fun i hi => ?_⟩
  simp only [List.length_take, List.length_drop] at hi
  rw [h.cell (off + i) (by omega)]
  congr 2
  simp only [List.getD_eq_getElem?_getD, List.getElem?_take, List.getElem?_drop]
  rw [if_pos (by omega)]

theorem Row.all (h : Row k t w g zs) : Seg k w (some ⟨g, 0, none⟩) zs := by
  have := h.seg 0 zs.length (by omega)
  simpa using this

theorem Row.first (h : Row k t w g zs) (n : Nat) (hn : n ≤ zs.length) : Seg k w (some ⟨g, 0, none⟩) (zs.take n) := by
  have := h.seg 0 n (by omega)
  simpa using this

end

/-- A block of a variable's own. -/
def Blk (t : TypeId) (w : World) (b : Nat) (cs : Array Value) : Prop := w.heap[b]? = some (.cells cs t (0, 0))

section
variable {t : TypeId} {w w' : World} {b : Nat} {cs : Array Value}
theorem Blk.lt (h : Blk t w b cs) : b < w.heap.size := (Array.getElem?_eq_some_iff.1 h).1
theorem Blk.cell (h : Blk t w b cs) (i : Nat) : w.cell? ⟨b, i, none⟩ = cs[i]? := cell_of_row w b i _ t (0, 0) h
theorem Blk.frozen (h : Blk t w b cs) (i : Nat) : w.frozen? ⟨b, i, none⟩ = false := frozen_of_row w b i _ t h
theorem Blk.keep (h : Blk t w b cs) {B : Nat} (hb : Below B w w') (hg : b < B) : Blk t w' b cs := (hb.block b hg).trans h
theorem Blk.stay (h : Blk t w b cs) (hb : Below w.heap.size w w') : Blk t w' b cs := h.keep hb h.lt
theorem Blk.alloc (h : Blk t w b cs) (o : Obj) : Blk t (w.alloc o) b cs := (Below.heap_alloc w o b h.lt).trans h
theorem Blk.other (h : Blk t w b cs) {a : Addr} (ha : a.block ≠ b) (v : Value) : Blk t (w.setCell a v) b cs := (heap_setCell_other w a b v (fun e => ha e.symm)).trans h
theorem Blk.new (w : World) (t : TypeId) (cs : Array Value) : Blk t (w.alloc (.cells cs t (0, 0))) w.heap.size cs := heap_alloc_new w _
theorem Blk.set (h : Blk t w b cs) (i : Nat) (v : Value) : Blk t (w.setCell ⟨b, i, none⟩ v) b (cs.setIfInBounds i v) := heap_setCell_same w b i _ t _ h
end

theorem Blk.drew {t : TypeId} {w : World} {b : Nat} {cs : Array Value} (h : Blk t w b cs) : Blk t w.drew b cs := h
theorem Blk.two {t : TypeId} {w : World} {b : Nat} {x y : Value} (h : Blk t w b #[x, y]) :
    w.cell? ⟨b, 0, none⟩ = some x ∧ w.cell? ⟨b, 1, none⟩ = some y ∧ w.frozen? ⟨b, 0, none⟩ = false ∧ w.frozen? ⟨b, 1, none⟩ = false :=
  ⟨h.cell 0, h.cell 1, h.frozen 0, h.frozen 1⟩
/-- Numbers don't lie in a struct's variable: what is stored there leaves them. -/
theorem Seg.store2 {k : IntKind} {w : World} {ao : Option Addr} {xs : List Nat} (h : Seg k w ao xs) {t : TypeId} {b : Nat} {x : Bool} {a : Option Addr} {n c : Nat} (hB : Blk t w b #[.bool x, .slice a n c]) (y : Bool) (a' : Option Addr) (n' c' : Nat) :
    Seg k ((w.setCell ⟨b, 0, none⟩ (.bool y)).setCell ⟨b, 1, none⟩ (.slice a' n' c')) ao xs := by
  rcases h with h | ⟨g, off, rfl, hc⟩
  · exact Or.inl h
  · refine Or.inr ⟨g, off, rfl, fun i hi => ?_⟩
    have h1 := hc i hi
    have hne : g ≠ b := by
      intro e
      subst e
      rw [hB.cell (off + i)] at h1
      have h2 : off + i = 0 ∨ off + i = 1 ∨ 2 ≤ off + i := by omega
      rcases h2 with h2 | h2 | h2
      · rw [h2] at h1; simp at h1
      · rw [h2] at h1; simp at h1
      · rw [Array.getElem?_eq_none (by simp; omega)] at h1; cases h1
    have e1 : ((w.setCell ⟨b, 0, none⟩ (.bool y)).setCell ⟨b, 1, none⟩ (.slice a' n' c')).heap[g]? = w.heap[g]? := by
      rw [heap_setCell_other _ ⟨b, 1, none⟩ g _ hne, heap_setCell_other _ ⟨b, 0, none⟩ g _ hne]
    rw [World.cell?_of_block (a := ⟨g, off + i, none⟩) e1]
    exact h1

theorem below_store2 {w w1 : World} {B b : Nat} (h : Below B w w1) (hb : B ≤ b) (u v : Value) : Below B w ((w1.setCell ⟨b, 0, none⟩ u).setCell ⟨b, 1, none⟩ v) := (h.setCell (p := ⟨b, 0, none⟩) hb u).setCell (p := ⟨b, 1, none⟩) hb v

/-- Block g alone has been written; nothing is new. -/
structure Only (g : Nat) (w w' : World) : Prop where
  os : w'.os = w.os
  tape : w'.tape = w.tape
  output : w'.output = w.output
  size : w'.heap.size = w.heap.size
  block : ∀ k, k ≠ g → w'.heap[k]? = w.heap[k]?

theorem Only.refl (g : Nat) (w : World) : Only g w w := ⟨rfl, rfl, rfl, rfl, fun _ _ => rfl⟩
theorem Only.set {g : Nat} {w w' : World} (h : Only g w w') (i : Nat) (v : Value) : Only g w (w'.setCell ⟨g, i, none⟩ v) :=
  ⟨h.os, h.tape, h.output, by rw [← h.size]; simp, fun k hk => (heap_setCell_other w' ⟨g, i, none⟩ k v hk).trans (h.block k hk)⟩
theorem Only.below {g : Nat} {w w' : World} (h : Only g w w') {B : Nat} (hB : B ≤ g) : Below B w w' :=
  ⟨h.os, h.tape, h.output, by rw [h.size]; exact Nat.le_refl _, fun k hk => h.block k (by omega)⟩
/-- A world that came out of a call made behind some allocations. -/
theorem _root_.Go.RowKit.Below.step {B : Nat} {w0 w1 w2 : World} (h : Below B w0 w1) (k : Below w1.heap.size w1 w2) (hB : B ≤ w0.heap.size) : Below B w0 w2 := h.trans (k.mono (Nat.le_trans hB h.size))

/-- 'make([]T, n)' of numbers. -/
theorem wpList_make_nums {P : Program} (w : World) {ops : Array Oper} {rest : List Oper} {o : Oper} {a : Act} {Q : Exit → Act → World → Prop}
    (hg : o.guard = none) (l c : Operand) (t : TypeId) (hop : o.op = Op.makeSlice t l c)
    (e : TypeId) (k : IntKind) (bytes : Nat) (h1 : P.underlying t = some (.slice e)) (h2 : (P.info? e).map (fun i => (i.zero, i.size, i.bytes)) = some (some (.int k 0), 1, bytes))
    (kl kc : IntKind) (L C : Int) (n : Nat) (hl : a.eval l = .int kl L) (hc : a.eval c = .int kc C) (hL : L = (n : Int)) (hC : C = (n : Int)) (hby : bytes ≤ 64) (hnn : n ≤ 10000)
    (hK : ∀ w', Row k e w' w.heap.size (List.replicate n 0) → Below w.heap.size w w' → w'.heap.size = w.heap.size + 1 → wpList P ops Q rest (a.put o.dst (.slice (some ⟨w.heap.size, 0, none⟩) n n)) w') :
    wpList P ops Q (o :: rest) a w := by
  obtain ⟨i, hi, hz0, hz1, hz2⟩ := info_parts h2
  subst hL
  subst hC
  refine wpList_plain hg fun K hK' => ?_
  have b2 : bytes * n ≤ 64 * 10000 := Nat.mul_le_mul hby hnn
  have b3' : (n : Int) ≤ 9223372036854775807 := by omega
  have hb' : (i.bytes : Int) * (n : Int) ≤ 281474976710656 := by
    rw [hz2]
    have h : ((bytes * n : Nat) : Int) ≤ 281474976710656 := by omega
    rwa [Int.natCast_mul] at h
  have hr := run_make (P := P) w t e i (.int k 0) h1 hi hz0 kl kc n n (by omega) (Int.le_refl _) hb' b3'
  have e1 : madeCells (Value.int k 0).cells n = ((List.replicate n 0).map fun z => Value.int k ((z : Nat) : Int)).toArray := by
    rw [show (Value.int k 0).cells = #[Value.int k 0] from rfl]
    apply Array.toList_inj.1
    rw [toList_madeCells_one]
    simp
  simp only [Int.toNat_natCast, hz1, Nat.mul_one, e1] at hr
  unfold Oper.wp
  simp [execOp, hop, hl, hc, hr, Result.andThen, -List.map_replicate, -List.toArray_replicate, -List.map_toArray]
  refine hK' _ _ (hK _ (Row.new w k e _) ?_ ?_)
  · exact (Below.refl _ _).alloc (Nat.le_refl _) _
  · simp

/-- 'copy(out, src)', out a row of the call's own, at least as long. -/
theorem wpList_copy_nums {P : Program} {w : World} {ops : Array Oper} {rest : List Oper} {o : Oper} {a : Act} {Q : Exit → Act → World → Prop} (hgd : o.guard = none) (d s : Operand) (dT : TypeId)
    (ho : o.op = .call { callee := .builtin .copy, args := #[d, s], argTypes := #[dT, dT] }) (e : TypeId) (k : IntKind) (bytes : Nat) (h1 : P.underlying dT = some (.slice e)) (h2 : (P.info? e).map (fun i => (i.zero, i.size, i.bytes)) = some (some (.int k 0), 1, bytes))
    (g dLen dCap : Nat) (ao : Option Addr) (n cap : Nat) (hd : a.eval d = .slice (some ⟨g, 0, none⟩) dLen dCap) (hs : a.eval s = .slice ao n cap)
    (zs xs : List Nat) (hg : Row k e w g zs) (hz : zs.length = dLen) (hx : xs.length = n) (hsrc : Seg k w ao xs) (hle : n ≤ dLen)
    (hK : ∀ w', Row k e w' g (xs ++ zs.drop n) → Below g w w' → w'.heap.size = w.heap.size → wpList P ops Q rest (a.put o.dst (goInt n)) w') :
    wpList P ops Q (o :: rest) a w := by
  obtain ⟨i, hi, hz0, hz1, hz2⟩ := info_parts h2
  have hsz : (P.info? e).map (·.size) = some 1 := by rw [hi]; simp [hz1]
  subst hx
  subst hz
  by_cases h0 : xs.length = 0
  · obtain rfl : xs = [] := List.eq_nil_of_length_eq_zero h0
    refine wpList_copy_nothing hgd d s dT dT ho e h1 hsz _ _ _ _ _ _ hd hs (by simp) ?_
    exact hK w (by simpa using hg) (Below.refl _ _) rfl
  · obtain ⟨b, off, rfl, hc⟩ := hsrc.open 0 (by omega)
    refine wpList_copy_own hgd d s dT dT ho e h1 hsz g 0 _ _ ⟨b, off, none⟩ _ _ hd hs _ e hg (xs.map fun z => Value.int k ((z : Nat) : Int)) ?_ ?_ ?_ ?_ ?_
    · rw [List.length_map]; exact (Nat.min_eq_left hle).symm
    · intro j v hv
      have hj : j < xs.length := by simpa using (List.getElem?_eq_some_iff.1 hv).1
      rw [Addr.add_lit, hc j hj]
      simp only [List.getElem?_map, List.getElem?_eq_getElem hj, Option.map_some, Option.some.injEq] at hv
      rw [← hv, List.getD_eq_getElem?_getD, List.getElem?_eq_getElem hj]
      rfl
    · simp; omega
    · intro v hv
      obtain ⟨_, _, rfl⟩ := List.mem_map.1 hv
      rfl
    · have e2 : (goInt ((xs.map fun z => Value.int k ((z : Nat) : Int)).length)) = goInt xs.length := by simp
      rw [e2]
      refine hK _ ?_ (below_setRow (Below.refl _ _) (Nat.le_refl _) _) (by simp [World.setRow])
      unfold Row
      rw [setRow_heap w g _ _ e _ hg]
      simp

end Go.Proofs.Ytlonnhnfmcndfad
