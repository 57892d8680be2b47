/- Joined: Base, Plain, Trim, Leaf: words and contracts; no statement of the seat is proved here. -/
import Derived.WalkKit
import Derived.WalkSpells
import Derived.WalkLawsBesides
import Derived.Handy
import Derived.Laws.CopyOwn
import Derived.Test.YteefniagebcagaaGreatDoorProg
/- Words for the walks: what a slice of numbers holds in a world; no statement of the seat is proved here. -/
namespace Go.Proofs.YteefniagebcagaaGreatDoor
open Go.RowKit

/-- The cells of a slice that begins at 'ao' hold the numbers xs. -/
def Seg (k : IntKind) (w : World) (ao : Option Addr) (xs : List Nat) : Prop :=
  xs = [] ∨ ∃ b off, ao = some ⟨b, off, none⟩ ∧ ∀ i, i < xs.length → w.cell? ⟨b, off + i, none⟩ = some (.int k (xs.getD i 0 : Nat))

theorem Seg.nil (k : IntKind) (w : World) (ao : Option Addr) : Seg k w ao [] := Or.inl rfl

theorem Seg.open {k : IntKind} {w : World} {ao : Option Addr} {xs : List Nat} (h : Seg k w ao xs) (i : Nat) (hi : i < xs.length) :
    ∃ b off, ao = some ⟨b, off, none⟩ ∧ ∀ j, j < xs.length → w.cell? ⟨b, off + j, none⟩ = some (.int k (xs.getD j 0 : Nat)) := by
  rcases h with h | h
  · subst h; simp at hi
  · exact h

theorem Seg.below {k : IntKind} {w w' : World} {ao : Option Addr} {xs : List Nat} (h : Seg k w ao xs) (hb : Below w.heap.size w w') : Seg k w' ao xs := by
  rcases h with h | ⟨b, off, rfl, hc⟩
  · exact Or.inl h
  · refine Or.inr ⟨b, off, rfl, fun i hi => ?_⟩
    have h1 := hc i hi
    have h2 : b < w.heap.size := World.block_lt_of_cell? w ⟨b, off + i, none⟩ h1
    rw [hb.cell (p := ⟨b, off + i, none⟩) h2]
    exact h1

theorem Seg.take {k : IntKind} {w : World} {ao : Option Addr} {xs : List Nat} (h : Seg k w ao xs) (n : Nat) : Seg k w ao (xs.take n) := by
  rcases h with h | ⟨b, off, rfl, hc⟩
  · subst h; exact Or.inl (by simp)
  · refine Or.inr ⟨b, off, rfl, fun i hi => ?_⟩
    simp only [List.length_take] at hi
    have e : (xs.take n).getD i 0 = xs.getD i 0 := by
      simp only [List.getD_eq_getElem?_getD, List.getElem?_take]
      rw [if_pos (by omega)]
    rw [hc i (by omega), e]

/-- Block g is a row of numbers, all its cells, and may be written. -/
def Row (k : IntKind) (t : TypeId) (w : World) (g : Nat) (zs : List Nat) : Prop :=
  w.heap[g]? = some (.cells (zs.map fun z => Value.int k (z : Nat)).toArray t (0, 0))

section
variable {k : IntKind} {t : TypeId} {w w' : World} {g : Nat} {zs : List Nat}

theorem Row.lt (h : Row k t w g zs) : g < w.heap.size := (Array.getElem?_eq_some_iff.1 h).1

theorem Row.cell (h : Row k t w g zs) (i : Nat) (hi : i < zs.length) : w.cell? ⟨g, i, none⟩ = some (.int k (zs.getD i 0 : Nat)) := by
  rw [cell_of_row w g i _ t (0, 0) h]
  simp [List.getElem?_eq_getElem hi]

theorem Row.frozen (h : Row k t w g zs) (i : Nat) : w.frozen? ⟨g, i, none⟩ = false := frozen_of_row w g i _ t h

theorem Row.set (h : Row k t w g zs) (i : Nat) (z : Int) (n : Nat) (hz : z = (n : Int)) : Row k t (w.setCell ⟨g, i, none⟩ (.int k z)) g (zs.set i n) := by
  subst hz
  unfold Row
  rw [heap_setCell_same w g i _ t _ h]
  simp

theorem Row.keep (h : Row k t w g zs) {B : Nat} (hb : Below B w w') (hg : g < B) : Row k t w' g zs := (hb.block g hg).trans h

theorem Row.other (h : Row k t w g zs) {a : Addr} (ha : a.block ≠ g) (v : Value) : Row k t (w.setCell a v) g zs :=
  (heap_setCell_other w a g v (fun e => ha e.symm)).trans h

theorem Row.alloc (h : Row k t w g zs) (o : Obj) : Row k t (w.alloc o) g zs := (Below.heap_alloc w o g h.lt).trans h

theorem Row.new (w : World) (k : IntKind) (t : TypeId) (zs : List Nat) : Row k t (w.alloc (.cells (zs.map fun z => Value.int k (z : Nat)).toArray t (0, 0))) w.heap.size zs := heap_alloc_new w _

theorem Row.seg (h : Row k t w g zs) (off n : Nat) (hn : off + n ≤ zs.length) : Seg k w (some ⟨g, off, none⟩) ((zs.drop off).take n) := by
  refine Or.inr ⟨g, off, rfl, fun i hi => ?_⟩
  simp only [List.length_take, List.length_drop] at hi
  rw [h.cell (off + i) (by omega)]
  congr 2
  simp only [List.getD_eq_getElem?_getD, List.getElem?_take, List.getElem?_drop]
  rw [if_pos (by omega)]

theorem Row.all (h : Row k t w g zs) : Seg k w (some ⟨g, 0, none⟩) zs := by
  have := h.seg 0 zs.length (by omega)
  simpa using this

theorem Row.first (h : Row k t w g zs) (n : Nat) (hn : n ≤ zs.length) : Seg k w (some ⟨g, 0, none⟩) (zs.take n) := by
  have := h.seg 0 n (by omega)
  simpa using this

end

/-- A block of a variable's own. -/
def Blk (t : TypeId) (w : World) (b : Nat) (cs : Array Value) : Prop := w.heap[b]? = some (.cells cs t (0, 0))

section
variable {t : TypeId} {w w' : World} {b : Nat} {cs : Array Value}
theorem Blk.lt (h : Blk t w b cs) : b < w.heap.size := (Array.getElem?_eq_some_iff.1 h).1
theorem Blk.cell (h : Blk t w b cs) (i : Nat) : w.cell? ⟨b, i, none⟩ = cs[i]? := cell_of_row w b i _ t (0, 0) h
theorem Blk.frozen (h : Blk t w b cs) (i : Nat) : w.frozen? ⟨b, i, none⟩ = false := frozen_of_row w b i _ t h
theorem Blk.keep (h : Blk t w b cs) {B : Nat} (hb : Below B w w') (hg : b < B) : Blk t w' b cs := (hb.block b hg).trans h
theorem Blk.stay (h : Blk t w b cs) (hb : Below w.heap.size w w') : Blk t w' b cs := h.keep hb h.lt
theorem Blk.alloc (h : Blk t w b cs) (o : Obj) : Blk t (w.alloc o) b cs := (Below.heap_alloc w o b h.lt).trans h
theorem Blk.other (h : Blk t w b cs) {a : Addr} (ha : a.block ≠ b) (v : Value) : Blk t (w.setCell a v) b cs := (heap_setCell_other w a b v (fun e => ha e.symm)).trans h
theorem Blk.new (w : World) (t : TypeId) (cs : Array Value) : Blk t (w.alloc (.cells cs t (0, 0))) w.heap.size cs := heap_alloc_new w _
theorem Blk.set (h : Blk t w b cs) (i : Nat) (v : Value) : Blk t (w.setCell ⟨b, i, none⟩ v) b (cs.setIfInBounds i v) := heap_setCell_same w b i _ t _ h
end

theorem Blk.drew {t : TypeId} {w : World} {b : Nat} {cs : Array Value} (h : Blk t w b cs) : Blk t w.drew b cs := h
theorem Blk.two {t : TypeId} {w : World} {b : Nat} {x y : Value} (h : Blk t w b #[x, y]) :
    w.cell? ⟨b, 0, none⟩ = some x ∧ w.cell? ⟨b, 1, none⟩ = some y ∧ w.frozen? ⟨b, 0, none⟩ = false ∧ w.frozen? ⟨b, 1, none⟩ = false :=
  ⟨h.cell 0, h.cell 1, h.frozen 0, h.frozen 1⟩
/-- Numbers don't lie in a struct's variable: what is stored there leaves them. -/
theorem Seg.store2 {k : IntKind} {w : World} {ao : Option Addr} {xs : List Nat} (h : Seg k w ao xs) {t : TypeId} {b : Nat} {x : Bool} {a : Option Addr} {n c : Nat} (hB : Blk t w b #[.bool x, .slice a n c]) (y : Bool) (a' : Option Addr) (n' c' : Nat) :
    Seg k ((w.setCell ⟨b, 0, none⟩ (.bool y)).setCell ⟨b, 1, none⟩ (.slice a' n' c')) ao xs := by
  rcases h with h | ⟨g, off, rfl, hc⟩
  · exact Or.inl h
  · refine Or.inr ⟨g, off, rfl, fun i hi => ?_⟩
    have h1 := hc i hi
    have hne : g ≠ b := by
      intro e
      subst e
      rw [hB.cell (off + i)] at h1
      have h2 : off + i = 0 ∨ off + i = 1 ∨ 2 ≤ off + i := by omega
      rcases h2 with h2 | h2 | h2
      · rw [h2] at h1; simp at h1
      · rw [h2] at h1; simp at h1
      · rw [Array.getElem?_eq_none (by simp; omega)] at h1; cases h1
    have e1 : ((w.setCell ⟨b, 0, none⟩ (.bool y)).setCell ⟨b, 1, none⟩ (.slice a' n' c')).heap[g]? = w.heap[g]? := by
      rw [heap_setCell_other _ ⟨b, 1, none⟩ g _ hne, heap_setCell_other _ ⟨b, 0, none⟩ g _ hne]
    rw [World.cell?_of_block (a := ⟨g, off + i, none⟩) e1]
    exact h1

theorem below_store2 {w w1 : World} {B b : Nat} (h : Below B w w1) (hb : B ≤ b) (u v : Value) : Below B w ((w1.setCell ⟨b, 0, none⟩ u).setCell ⟨b, 1, none⟩ v) := (h.setCell (p := ⟨b, 0, none⟩) hb u).setCell (p := ⟨b, 1, none⟩) hb v

/-- Block g alone has been written; nothing is new. -/
structure Only (g : Nat) (w w' : World) : Prop where
  os : w'.os = w.os
  tape : w'.tape = w.tape
  output : w'.output = w.output
  size : w'.heap.size = w.heap.size
  block : ∀ k, k ≠ g → w'.heap[k]? = w.heap[k]?

theorem Only.refl (g : Nat) (w : World) : Only g w w := ⟨rfl, rfl, rfl, rfl, fun _ _ => rfl⟩
theorem Only.set {g : Nat} {w w' : World} (h : Only g w w') (i : Nat) (v : Value) : Only g w (w'.setCell ⟨g, i, none⟩ v) :=
  ⟨h.os, h.tape, h.output, by rw [← h.size]; simp, fun k hk => (heap_setCell_other w' ⟨g, i, none⟩ k v hk).trans (h.block k hk)⟩
theorem Only.trans {g : Nat} {a b c : World} (h : Only g a b) (k : Only g b c) : Only g a c :=
  ⟨k.os.trans h.os, k.tape.trans h.tape, k.output.trans h.output, k.size.trans h.size, fun i hi => (k.block i hi).trans (h.block i hi)⟩
theorem Only.below {g : Nat} {w w' : World} (h : Only g w w') {B : Nat} (hB : B ≤ g) : Below B w w' :=
  ⟨h.os, h.tape, h.output, by rw [h.size]; exact Nat.le_refl _, fun k hk => h.block k (by omega)⟩
theorem Only.row {g : Nat} {w w' : World} (h : Only g w w') {k : IntKind} {t : TypeId} {b : Nat} {zs : List Nat} (hr : Row k t w b zs) (hb : b ≠ g) : Row k t w' b zs := (h.block b hb).trans hr
theorem Only.seg {g : Nat} {w w' : World} (h : Only g w w') {k : IntKind} {ao : Option Addr} {xs : List Nat} (hs : Seg k w ao xs) (hne : ∀ a, ao = some a → a.block ≠ g) : Seg k w' ao xs := by
  rcases hs with hs | ⟨b, off, rfl, hc⟩
  · exact Or.inl hs
  · refine Or.inr ⟨b, off, rfl, fun i hi => ?_⟩
    rw [World.cell?_of_block (a := ⟨b, off + i, none⟩) (h.block b (hne _ rfl))]
    exact hc i hi

/-- A world that came out of a call made behind some allocations. -/
theorem _root_.Go.RowKit.Below.step {B : Nat} {w0 w1 w2 : World} (h : Below B w0 w1) (k : Below w1.heap.size w1 w2) (hB : B ≤ w0.heap.size) : Below B w0 w2 := h.trans (k.mono (Nat.le_trans hB h.size))

/-- 'make([]T, n)' of numbers. -/
theorem wpList_make_nums {P : Program} (w : World) {ops : Array Oper} {rest : List Oper} {o : Oper} {a : Act} {Q : Exit → Act → World → Prop}
    (hg : o.guard = none) (l c : Operand) (t : TypeId) (hop : o.op = Op.makeSlice t l c)
    (e : TypeId) (k : IntKind) (bytes : Nat) (h1 : P.underlying t = some (.slice e)) (h2 : (P.info? e).map (fun i => (i.zero, i.size, i.bytes)) = some (some (.int k 0), 1, bytes))
    (kl kc : IntKind) (L C : Int) (n : Nat) (hl : a.eval l = .int kl L) (hc : a.eval c = .int kc C) (hL : L = (n : Int)) (hC : C = (n : Int)) (hby : bytes ≤ 64) (hnn : n ≤ 10000)
    (hK : ∀ w', Row k e w' w.heap.size (List.replicate n 0) → Below w.heap.size w w' → w'.heap.size = w.heap.size + 1 → wpList P ops Q rest (a.put o.dst (.slice (some ⟨w.heap.size, 0, none⟩) n n)) w') :
    wpList P ops Q (o :: rest) a w := by
  obtain ⟨i, hi, hz0, hz1, hz2⟩ := info_parts h2
  subst hL
  subst hC
  refine wpList_plain hg fun K hK' => ?_
  have b2 : bytes * n ≤ 64 * 10000 := Nat.mul_le_mul hby hnn
  have b3' : (n : Int) ≤ 9223372036854775807 := by omega
  have hb' : (i.bytes : Int) * (n : Int) ≤ 281474976710656 := by
    rw [hz2]
    have h : ((bytes * n : Nat) : Int) ≤ 281474976710656 := by omega
    rwa [Int.natCast_mul] at h
  have hr := run_make (P := P) w t e i (.int k 0) h1 hi hz0 kl kc n n (by omega) (Int.le_refl _) hb' b3'
  have e1 : madeCells (Value.int k 0).cells n = ((List.replicate n 0).map fun z => Value.int k ((z : Nat) : Int)).toArray := by
    rw [show (Value.int k 0).cells = #[Value.int k 0] from rfl]
    apply Array.toList_inj.1
    rw [toList_madeCells_one]
    simp
  simp only [Int.toNat_natCast, hz1, Nat.mul_one, e1] at hr
  unfold Oper.wp
  simp [execOp, hop, hl, hc, hr, Result.andThen, -List.map_replicate, -List.toArray_replicate, -List.map_toArray]
  refine hK' _ _ (hK _ (Row.new w k e _) ?_ ?_)
  · exact (Below.refl _ _).alloc (Nat.le_refl _) _
  · simp

/-- 'copy(out, src)', out a row of the call's own, at least as long. -/
theorem wpList_copy_nums {P : Program} {w : World} {ops : Array Oper} {rest : List Oper} {o : Oper} {a : Act} {Q : Exit → Act → World → Prop} (hgd : o.guard = none) (d s : Operand) (dT : TypeId)
    (ho : o.op = .call { callee := .builtin .copy, args := #[d, s], argTypes := #[dT, dT] }) (e : TypeId) (k : IntKind) (bytes : Nat) (h1 : P.underlying dT = some (.slice e)) (h2 : (P.info? e).map (fun i => (i.zero, i.size, i.bytes)) = some (some (.int k 0), 1, bytes))
    (g dLen dCap : Nat) (ao : Option Addr) (n cap : Nat) (hd : a.eval d = .slice (some ⟨g, 0, none⟩) dLen dCap) (hs : a.eval s = .slice ao n cap)
    (zs xs : List Nat) (hg : Row k e w g zs) (hz : zs.length = dLen) (hx : xs.length = n) (hsrc : Seg k w ao xs) (hle : n ≤ dLen)
    (hK : ∀ w', Row k e w' g (xs ++ zs.drop n) → Below g w w' → w'.heap.size = w.heap.size → wpList P ops Q rest (a.put o.dst (goInt n)) w') :
    wpList P ops Q (o :: rest) a w := by
  obtain ⟨i, hi, hz0, hz1, hz2⟩ := info_parts h2
  have hsz : (P.info? e).map (·.size) = some 1 := by rw [hi]; simp [hz1]
  subst hx
  subst hz
  by_cases h0 : xs.length = 0
  · obtain rfl : xs = [] := List.eq_nil_of_length_eq_zero h0
    refine wpList_copy_nothing hgd d s dT dT ho e h1 hsz _ _ _ _ _ _ hd hs (by simp) ?_
    exact hK w (by simpa using hg) (Below.refl _ _) rfl
  · obtain ⟨b, off, rfl, hc⟩ := hsrc.open 0 (by omega)
    refine wpList_copy_own hgd d s dT dT ho e h1 hsz g 0 _ _ ⟨b, off, none⟩ _ _ hd hs _ e hg (xs.map fun z => Value.int k ((z : Nat) : Int)) ?_ ?_ ?_ ?_ ?_
    · rw [List.length_map]; exact (Nat.min_eq_left hle).symm
    · intro j v hv
      have hj : j < xs.length := by simpa using (List.getElem?_eq_some_iff.1 hv).1
      rw [Addr.add_lit, hc j hj]
      simp only [List.getElem?_map, List.getElem?_eq_getElem hj, Option.map_some, Option.some.injEq] at hv
      rw [← hv, List.getD_eq_getElem?_getD, List.getElem?_eq_getElem hj]
      rfl
    · simp; omega
    · intro v hv
      obtain ⟨_, _, rfl⟩ := List.mem_map.1 hv
      rfl
    · have e2 : (goInt ((xs.map fun z => Value.int k ((z : Nat) : Int)).length)) = goInt xs.length := by simp
      rw [e2]
      refine hK _ ?_ (below_setRow (Below.refl _ _) (Nat.le_refl _) _) (by simp [World.setRow])
      unfold Row
      rw [setRow_heap w g _ _ e _ hg]
      simp

end Go.Proofs.YteefniagebcagaaGreatDoor
/- Plain facts on lists of digits of a base: their value, noughts at the end, order; no program is spoken of here. -/
namespace Go.Proofs.YteefniagebcagaaGreatDoor

/-- The number that digits of base B write, the lowest first. -/
def val (B : Nat) : List Nat → Nat
  | [] => 0
  | x :: r => x + B * val B r

/-- Without noughts at the end. -/
def trimZ : List Nat → List Nat
  | [] => []
  | x :: r => if trimZ r = [] ∧ x = 0 then [] else x :: trimZ r

/-- Each is a digit. -/
def Digs (B : Nat) (xs : List Nat) : Prop := ∀ x, x ∈ xs → x < B

theorem Digs.nil (B : Nat) : Digs B [] := fun _ h => by simp at h
theorem Digs.tail {B x : Nat} {r : List Nat} (h : Digs B (x :: r)) : Digs B r := fun y hy => h y (List.mem_cons_of_mem _ hy)
theorem Digs.head {B x : Nat} {r : List Nat} (h : Digs B (x :: r)) : x < B := h x (List.mem_cons_self ..)
theorem Digs.cons {B x : Nat} {r : List Nat} (hx : x < B) (h : Digs B r) : Digs B (x :: r) := by
  intro y hy
  rcases List.mem_cons.1 hy with h' | h'
  · subst h'; exact hx
  · exact h y h'
theorem Digs.append {B : Nat} {a b : List Nat} (ha : Digs B a) (hb : Digs B b) : Digs B (a ++ b) := by
  intro y hy
  rcases List.mem_append.1 hy with h' | h'
  · exact ha y h'
  · exact hb y h'
theorem Digs.take {B : Nat} {a : List Nat} (ha : Digs B a) (n : Nat) : Digs B (a.take n) := fun y hy => ha y (List.mem_of_mem_take hy)
theorem Digs.drop {B : Nat} {a : List Nat} (ha : Digs B a) (n : Nat) : Digs B (a.drop n) := fun y hy => ha y (List.mem_of_mem_drop hy)
theorem Digs.getD {B : Nat} {a : List Nat} (ha : Digs B a) (hB : 0 < B) (i : Nat) : a.getD i 0 < B := by
  rw [List.getD_eq_getElem?_getD]
  cases h : a[i]? with
  | none => simpa using hB
  | some y => simpa using ha y (List.mem_of_getElem? h)
theorem Digs.get {B : Nat} {a : List Nat} (ha : Digs B a) (hB : 0 < B) (i : Nat) : a[i]?.getD 0 < B := by
  rw [← List.getD_eq_getElem?_getD]; exact ha.getD hB i

theorem val_nil (B : Nat) : val B [] = 0 := rfl
theorem val_cons (B x : Nat) (r : List Nat) : val B (x :: r) = x + B * val B r := rfl

theorem val_append (B : Nat) (a b : List Nat) : val B (a ++ b) = val B a + B ^ a.length * val B b := by
  induction a with
  | nil => simp [val]
  | cons x r ih =>
    simp only [List.cons_append, val, ih, List.length_cons, Nat.pow_succ, Nat.mul_add, Nat.add_assoc]
    congr 2
    rw [← Nat.mul_assoc, Nat.mul_comm B]

theorem val_snoc (B : Nat) (a : List Nat) (x : Nat) : val B (a ++ [x]) = val B a + B ^ a.length * x := by
  rw [val_append]; simp [val]

theorem take_snoc (xs : List Nat) (k : Nat) (h : k < xs.length) : xs.take (k + 1) = xs.take k ++ [xs.getD k 0] := by
  rw [List.take_succ_eq_append_getElem h, List.getD_eq_getElem?_getD, List.getElem?_eq_getElem h]; rfl

theorem val_take_succ (B : Nat) (xs : List Nat) (k : Nat) (h : k < xs.length) : val B (xs.take (k + 1)) = val B (xs.take k) + B ^ k * xs.getD k 0 := by
  rw [take_snoc xs k h, val_snoc, List.length_take, Nat.min_eq_left (Nat.le_of_lt h)]

theorem val_lt {B : Nat} {xs : List Nat} (h : Digs B xs) : val B xs < B ^ xs.length := by
  induction xs with
  | nil => simp [val]
  | cons x r ih =>
    have h1 := ih h.tail
    have h2 := h.head
    simp only [val, List.length_cons, Nat.pow_succ]
    have h3 : B * (val B r + 1) ≤ B * B ^ r.length := Nat.mul_le_mul_left _ h1
    rw [Nat.mul_add, Nat.mul_one] at h3
    rw [Nat.mul_comm (B ^ r.length) B]
    omega

theorem val_replicate_zero (B n : Nat) : val B (List.replicate n 0) = 0 := by
  induction n with
  | zero => rfl
  | succ n ih => simp [List.replicate_succ, val, ih]

theorem val_trimZ (B : Nat) (xs : List Nat) : val B (trimZ xs) = val B xs := by
  induction xs with
  | nil => rfl
  | cons x r ih =>
    simp only [trimZ]
    split
    · next h => obtain ⟨h1, h2⟩ := h; rw [h1] at ih; simp [val] at ih ⊢; rw [← ih, h2]; simp
    · simp [val, ih]

theorem trimZ_snoc_zero (l : List Nat) : trimZ (l ++ [0]) = trimZ l := by
  induction l with
  | nil => simp [trimZ]
  | cons x r ih => simp [trimZ, ih]

theorem trimZ_snoc_ne (l : List Nat) (x : Nat) (h : x ≠ 0) : trimZ (l ++ [x]) = l ++ [x] := by
  induction l with
  | nil => simp [trimZ, h]
  | cons y r ih => simp [trimZ, ih]

theorem trimZ_take (xs : List Nat) : trimZ xs = xs.take (trimZ xs).length := by
  induction xs with
  | nil => rfl
  | cons x r ih =>
    simp only [trimZ]
    split
    · simp
    · simp only [List.length_cons, List.take_succ_cons]; rw [← ih]

theorem trimZ_length_le (xs : List Nat) : (trimZ xs).length ≤ xs.length := by
  have h := congrArg List.length (trimZ_take xs)
  rw [List.length_take] at h
  omega

theorem Digs.trimZ {B : Nat} {xs : List Nat} (h : Digs B xs) : Digs B (trimZ xs) := by
  rw [trimZ_take]; exact h.take _

/-- No nought at the end. -/
def Norm (xs : List Nat) : Prop := trimZ xs = xs

theorem Norm.nil : Norm [] := rfl

theorem norm_trimZ (xs : List Nat) : Norm (trimZ xs) := by
  induction xs with
  | nil => rfl
  | cons x r ih =>
    unfold Norm at ih ⊢
    by_cases h : trimZ r = [] ∧ x = 0
    · rw [show trimZ (x :: r) = [] by simp [trimZ, h]]; rfl
    · have e : trimZ (x :: r) = x :: trimZ r := by simp only [trimZ]; rw [if_neg h]
      rw [e]
      simp only [trimZ, ih]
      rw [if_neg h]

theorem Norm.tail {x : Nat} {r : List Nat} (h : Norm (x :: r)) : Norm r := by
  unfold Norm at h ⊢
  simp only [trimZ] at h
  split at h
  · cases h
  · exact (List.cons.inj h).2

theorem Norm.pos {B : Nat} {xs : List Nat} (h : Norm xs) (hne : xs ≠ []) : 0 < val B xs ∨ B = 0 := by
  induction xs with
  | nil => exact absurd rfl hne
  | cons x r ih =>
    by_cases hr : r = []
    · subst hr
      unfold Norm at h
      simp only [trimZ] at h
      split at h
      · cases h
      · next h' => simp at h'; left; simp [val]; omega
    · rcases ih h.tail hr with h1 | h1
      · by_cases hB : B = 0
        · exact Or.inr hB
        · left; simp only [val]; exact Nat.lt_of_lt_of_le (Nat.mul_pos (Nat.pos_of_ne_zero hB) h1) (Nat.le_add_left _ _)
      · exact Or.inr h1

theorem Norm.ge {B : Nat} {xs : List Nat} (h : Norm xs) (hne : xs ≠ []) (hB : 0 < B) : B ^ (xs.length - 1) ≤ val B xs := by
  induction xs with
  | nil => exact absurd rfl hne
  | cons x r ih =>
    by_cases hr : r = []
    · subst hr
      have := (h.pos (B := B) (by simp)).resolve_right (by omega)
      simp; omega
    · have h1 := ih h.tail hr
      have hl : 0 < r.length := List.length_pos_iff.2 hr
      simp only [val, List.length_cons, Nat.add_sub_cancel]
      have e : B ^ r.length = B * B ^ (r.length - 1) := by
        rw [Nat.mul_comm, ← Nat.pow_succ]; congr 1; omega
      rw [e]
      exact Nat.le_trans (Nat.mul_le_mul_left _ h1) (Nat.le_add_left _ _)

theorem Norm.eq_nil {B : Nat} {xs : List Nat} (h : Norm xs) (hB : 0 < B) (hv : val B xs = 0) : xs = [] := by
  by_cases hne : xs = []
  · exact hne
  · have := (h.pos (B := B) hne).resolve_right (by omega)
    omega

theorem Norm.last {xs : List Nat} (h : Norm xs) (hne : 0 < xs.length) : xs.getD (xs.length - 1) 0 ≠ 0 := by
  intro e
  have h1 := take_snoc xs (xs.length - 1) (by omega)
  rw [show xs.length - 1 + 1 = xs.length by omega, List.take_length, e] at h1
  unfold Norm at h
  have h2 := congrArg trimZ h1
  rw [h, trimZ_snoc_zero] at h2
  have h3 := congrArg List.length h2
  have h4 := trimZ_length_le (xs.take (xs.length - 1))
  simp only [List.length_take] at h4
  omega

/-- Of two lists of digits without noughts at their ends the longer one is the greater number. -/
theorem val_lt_of_length {B : Nat} {xs ys : List Nat} (hx : Digs B xs) (hy : Norm ys) (hB : 0 < B) (h : xs.length < ys.length) : val B xs < val B ys := by
  have h1 := val_lt hx
  have h2 := hy.ge (B := B) (by intro e; subst e; simp at h) hB
  have h3 : B ^ xs.length ≤ B ^ (ys.length - 1) := Nat.pow_le_pow_right hB (by omega)
  omega

theorem val_inj {B : Nat} {xs ys : List Nat} (hx : Digs B xs) (hy : Digs B ys) (hl : xs.length = ys.length) (h : val B xs = val B ys) : xs = ys := by
  induction xs generalizing ys with
  | nil => cases ys with
    | nil => rfl
    | cons y s => simp at hl
  | cons x r ih => cases ys with
    | nil => simp at hl
    | cons y s =>
      simp only [val] at h
      have hx0 := hx.head
      have hy0 := hy.head
      have h1 : x = y := by
        have a := congrArg (· % B) h
        simp only [Nat.add_mul_mod_self_left] at a
        rwa [Nat.mod_eq_of_lt hx0, Nat.mod_eq_of_lt hy0] at a
      subst h1
      have h2 : val B r = val B s := Nat.eq_of_mul_eq_mul_left (show 0 < B by omega) (Nat.add_left_cancel h)
      rw [ih hx.tail hy.tail (by simpa using hl) h2]

theorem Norm.inj {B : Nat} {xs ys : List Nat} (hx : Digs B xs) (hy : Digs B ys) (nx : Norm xs) (ny : Norm ys) (hB : 0 < B) (h : val B xs = val B ys) : xs = ys := by
  apply val_inj hx hy _ h
  rcases Nat.lt_trichotomy xs.length ys.length with h1 | h1 | h1
  · have := val_lt_of_length hx ny hB h1; omega
  · exact h1
  · have := val_lt_of_length hy nx hB h1; omega

theorem trimZ_eq_of_zeros (xs : List Nat) (k : Nat) (hk : k ≤ xs.length) (h : ∀ i, k ≤ i → i < xs.length → xs.getD i 0 = 0) : trimZ xs = trimZ (xs.take k) := by
  induction hn : xs.length - k generalizing k with
  | zero => rw [List.take_of_length_le (by omega)]
  | succ n ih =>
    rw [ih (k + 1) (by omega) (fun i h1 h2 => h i (by omega) h2) (by omega), take_snoc xs k (by omega), h k (Nat.le_refl _) (by omega), trimZ_snoc_zero]

theorem take_set_succ (zs : List Nat) (k d : Nat) (hk : k < zs.length) : (zs.set k d).take (k + 1) = zs.take k ++ [d] := by
  rw [take_snoc _ k (by simpa using hk), List.take_set_of_le (Nat.le_refl k)]
  simp [List.getD_eq_getElem?_getD, hk]

theorem val_set_succ (B : Nat) (zs : List Nat) (k d : Nat) (hk : k < zs.length) : val B ((zs.set k d).take (k + 1)) = val B (zs.take k) + B ^ k * d := by
  rw [take_set_succ zs k d hk, val_snoc, List.length_take, Nat.min_eq_left (Nat.le_of_lt hk)]

theorem Digs.set {B : Nat} {zs : List Nat} (h : Digs B zs) (k d : Nat) (hd : d < B) : Digs B (zs.set k d) := by
  intro y hy
  rcases List.mem_or_eq_of_mem_set hy with h' | h'
  · exact h y h'
  · subst h'; exact hd

theorem Digs.replicate (B n : Nat) (hB : 0 < B) : Digs B (List.replicate n 0) := by
  intro y hy
  have := List.eq_of_mem_replicate hy
  subst this; exact hB

theorem val_take_succ' (B : Nat) (xs : List Nat) (k : Nat) : val B (xs.take (k + 1)) = val B (xs.take k) + B ^ k * xs.getD k 0 := by
  rcases Nat.lt_or_ge k xs.length with h | h
  · exact val_take_succ B xs k h
  · rw [List.take_of_length_le (by omega), List.take_of_length_le h, List.getD_eq_getElem?_getD, List.getElem?_eq_none h]
    simp

theorem norm_of_ge {B : Nat} {zs : List Nat} (hB : 2 ≤ B) (hd : Digs B zs) (hl : 0 < zs.length) (h : B ^ (zs.length - 1) ≤ val B zs) : Norm zs := by
  have h1 := val_lt hd.trimZ
  rw [val_trimZ] at h1
  have h2 := trimZ_length_le zs
  have h3 : zs.length - 1 < (trimZ zs).length := by
    rcases Nat.lt_or_ge (zs.length - 1) (trimZ zs).length with h4 | h4
    · exact h4
    · have : B ^ (trimZ zs).length ≤ B ^ (zs.length - 1) := Nat.pow_le_pow_right (by omega) h4
      omega
  unfold Norm
  have h5 := trimZ_take zs
  rw [List.take_of_length_le (by omega)] at h5
  exact h5

theorem plus_step (P A c X Y x y d c' B : Nat) (h : A + P * c = X + Y) (hs : d + B * c' = c + x + y) : (A + P * d) + P * B * c' = (X + P * x) + (Y + P * y) := by
  have e := congrArg (P * ·) hs
  simp only [Nat.mul_add, Nat.mul_assoc] at *
  omega

theorem scale_step (P A c V x f m d c' B : Nat) (h : A + P * c = V * f + m) (hs : d + B * c' = x * f + c) : (A + P * d) + P * B * c' = (V + P * x) * f + m := by
  have e := congrArg (P * ·) hs
  simp only [Nat.mul_add, Nat.add_mul, Nat.mul_assoc] at *
  omega

end Go.Proofs.YteefniagebcagaaGreatDoor
/- The contract of arith.trimmed: the list without noughts at its end; it proves no statement of the seat. -/
namespace Go.Proofs.YteefniagebcagaaGreatDoor
open Go.RowKit

theorem Tryz.underlying29 : Tryz.prog.underlying 29 = some (.slice 167) := by kernel_rfl
theorem Tryz.underlying167 : Tryz.prog.underlying 167 = some (.int .u32) := by kernel_rfl
theorem Tryz.info167 : (Tryz.prog.info? 167).map (fun i => (i.zero, i.size, i.bytes)) = some (some (.int .u32 0), 1, 4) := by kernel_rfl

theorem trim_end (xs : List Nat) (j : Nat) (hj : j < xs.length) (h : ∀ i, j + 1 ≤ i → i < xs.length → xs.getD i 0 = 0) (h0 : ((xs[j]?.getD 0 : Nat) : Int) == 0 → False) :
    (trimZ xs).length = j + 1 := by
  rw [trimZ_eq_of_zeros xs (j + 1) (by omega) h, take_snoc xs j hj, trimZ_snoc_ne _ _ (fun e => h0 (by rw [List.getD_eq_getElem?_getD] at e; simp [e]))]
  simp; omega

set_option maxHeartbeats 400000 in
theorem trimmed_any (ao : Option Addr) (n cap : Nat) (xs : List Nat) (w : World) (hn : xs.length = n) (h1 : n ≤ cap) (h2 : cap ≤ maxLen) (hs : Seg .u32 w ao xs) :
    Calls Tryz.prog 113 #[.slice ao n cap] w fun e w' => e = .returned (.slice ao (trimZ xs).length cap) ∧ w' = w := by
  subst hn
  unfold maxLen at h2
  go_enter Tryz.func113, Tryz.ntmps113
  go_wp2
  go_loop [3] (fun n => ∃ k : Nat, k ≤ xs.length ∧ n = .int .i64 k ∧ Hid (∀ i, k ≤ i → i < xs.length → xs.getD i 0 = 0)) (fun n => (intOf n).toNat)
  case atStart => exact ⟨_, Nat.le_refl _, rfl, fun i h1 h2 => by omega⟩
  case round =>
    obtain ⟨k, hk, rfl, hz⟩ := hrel
    by_cases h0 : 0 < k
    · obtain ⟨b, off, rfl, hc⟩ := hs.open (k - 1) (by omega)
      have hcell := hc (k - 1) (by omega)
      have hkk : ∃ j, k = j + 1 := ⟨k - 1, by omega⟩
      obtain ⟨j, rfl⟩ := hkk
      simp only [Nat.add_sub_cancel] at hcell
      clear hc
      go_wp2
      · have h0' : ((xs[j]?.getD 0 : Nat) : Int) == 0 := by assumption
        go_round
        case rel =>
          refine ⟨j, by omega, rfl, fun i h1 h2 => ?_⟩
          by_cases e : i = j
          · subst e; rw [List.getD_eq_getElem?_getD]; simpa using h0'
          · exact hz.out i (by omega) h2
        case measure => simp [intOf]
      · have h0' : (((xs[j]?.getD 0 : Nat) : Int) == 0) = false := by assumption
        go_ret
        refine ⟨?_, rfl⟩
        rw [trim_end xs j (by omega) hz.out (fun h => by rw [h0'] at h; cases h)]
        rfl
    · go_wp2
      go_ret
      refine ⟨?_, rfl⟩
      have hk0 : k = 0 := by omega
      subst hk0
      rw [trimZ_eq_of_zeros xs 0 (by omega) hz.out]
      rfl
end Go.Proofs.YteefniagebcagaaGreatDoor
/- Contracts of arith's small functions on limbs (copied, splitWord, joinWord, bitLength, cmpLimbs, signed); they prove no statement of the seat. -/
namespace Go.Proofs.YteefniagebcagaaGreatDoor
open Go.RowKit

set_option maxHeartbeats 400000 in
theorem copied_any (ao : Option Addr) (n cap : Nat) (xs : List Nat) (w : World) (hn : xs.length = n) (h1 : n ≤ 10000) (hs : Seg .u32 w ao xs) :
    Calls Tryz.prog 100 #[.slice ao n cap] w fun e w' => e = .returned (.slice (some ⟨w.heap.size, 0, none⟩) n n) ∧ Row .u32 167 w' w.heap.size xs ∧ Below w.heap.size w w' ∧ w'.heap.size = w.heap.size + 1 := by
  have HN : Hid (xs.length = n) := hn
  clear hn
  go_enter Tryz.func100, Tryz.ntmps100
  go_wp2_with (first
    | (at_make; refine wpList_make_nums _ rfl _ _ 29 rfl 167 .u32 4 Tryz.underlying29 Tryz.info167 _ _ _ _ n rfl rfl rfl rfl (by decide) h1 ?_; intro w1 hr1 hb1 hz1)
    | (refine wpList_copy_nums rfl (.tmp 7) (.tmp 8) 29 rfl 167 .u32 4 Tryz.underlying29 Tryz.info167 _ n n ao n cap rfl rfl _ xs hr1 (by simp) HN.out (hs.below hb1) (Nat.le_refl _) ?_; intro w2 hr2 hb2 hz2))
  go_ret
  refine ⟨rfl, ?_, ?_, ?_⟩
  · simpa using hr2
  · exact hb1.trans hb2
  · omega
end Go.Proofs.YteefniagebcagaaGreatDoor
