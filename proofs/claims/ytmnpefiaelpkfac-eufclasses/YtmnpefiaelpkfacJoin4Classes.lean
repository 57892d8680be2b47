/- Joined: Base, EufC, EufA, EufB: words and contracts; no statement of the seat is proved here. -/
import Derived.WalkKit
import Derived.WalkSpells
import Derived.WalkLawsBesides
import Derived.Handy
import Derived.Laws.CopyOwn
import Derived.Test.YtmnpefiaelpkfacJoin3Classes
/- Words for the walks: what a slice of numbers holds in a world; no statement of the seat is proved here. -/
namespace Go.Proofs.Ytmnpefiaelpkfac
open Go.RowKit

/-- The cells of a slice that begins at 'ao' hold the numbers xs. -/
def Seg (k : IntKind) (w : World) (ao : Option Addr) (xs : List Nat) : Prop :=
  xs = [] ∨ ∃ b off, ao = some ⟨b, off, none⟩ ∧ ∀ i, i < xs.length → w.cell? ⟨b, off + i, none⟩ = some (.int k (xs.getD i 0 : Nat))

theorem Seg.open {k : IntKind} {w : World} {ao : Option Addr} {xs : List Nat} (h : Seg k w ao xs) (i : Nat) (hi : i < xs.length) :
    ∃ b off, ao = some ⟨b, off, none⟩ ∧ ∀ j, j < xs.length → w.cell? ⟨b, off + j, none⟩ = some (.int k (xs.getD j 0 : Nat)) := by
  rcases h with h | h
  · subst h; simp at hi
  · exact h

theorem Seg.below {k : IntKind} {w w' : World} {ao : Option Addr} {xs : List Nat} (h : Seg k w ao xs) (hb : Below w.heap.size w w') : Seg k w' ao xs := by
  rcases h with h | ⟨b, off, rfl, hc⟩
  · exact Or.inl h
  · refine Or.inr ⟨b, off, rfl, fun i hi => ?_⟩
    have h1 := hc i hi
    have h2 : b < w.heap.size := World.block_lt_of_cell? w ⟨b, off + i, none⟩ h1
    rw [hb.cell (p := ⟨b, off + i, none⟩) h2]
    exact h1

/-- Block g is a row of numbers, all its cells, and may be written. -/
def Row (k : IntKind) (t : TypeId) (w : World) (g : Nat) (zs : List Nat) : Prop :=
  w.heap[g]? = some (.cells (zs.map fun z => Value.int k (z : Nat)).toArray t (0, 0))

section
variable {k : IntKind} {t : TypeId} {w w' : World} {g : Nat} {zs : List Nat}

theorem Row.new (w : World) (k : IntKind) (t : TypeId) (zs : List Nat) : Row k t (w.alloc (.cells (zs.map fun z => Value.int k (z : Nat)).toArray t (0, 0))) w.heap.size zs := heap_alloc_new w _

end

/-- A block of a variable's own. -/
def Blk (t : TypeId) (w : World) (b : Nat) (cs : Array Value) : Prop := w.heap[b]? = some (.cells cs t (0, 0))

section
variable {t : TypeId} {w w' : World} {b : Nat} {cs : Array Value}
theorem Blk.lt (h : Blk t w b cs) : b < w.heap.size := (Array.getElem?_eq_some_iff.1 h).1
theorem Blk.cell (h : Blk t w b cs) (i : Nat) : w.cell? ⟨b, i, none⟩ = cs[i]? := cell_of_row w b i _ t (0, 0) h
theorem Blk.frozen (h : Blk t w b cs) (i : Nat) : w.frozen? ⟨b, i, none⟩ = false := frozen_of_row w b i _ t h
theorem Blk.keep (h : Blk t w b cs) {B : Nat} (hb : Below B w w') (hg : b < B) : Blk t w' b cs := (hb.block b hg).trans h
theorem Blk.stay (h : Blk t w b cs) (hb : Below w.heap.size w w') : Blk t w' b cs := h.keep hb h.lt
theorem Blk.set (h : Blk t w b cs) (i : Nat) (v : Value) : Blk t (w.setCell ⟨b, i, none⟩ v) b (cs.setIfInBounds i v) := heap_setCell_same w b i _ t _ h
end

theorem Blk.two {t : TypeId} {w : World} {b : Nat} {x y : Value} (h : Blk t w b #[x, y]) :
    w.cell? ⟨b, 0, none⟩ = some x ∧ w.cell? ⟨b, 1, none⟩ = some y ∧ w.frozen? ⟨b, 0, none⟩ = false ∧ w.frozen? ⟨b, 1, none⟩ = false :=
  ⟨h.cell 0, h.cell 1, h.frozen 0, h.frozen 1⟩
theorem below_store2 {w w1 : World} {B b : Nat} (h : Below B w w1) (hb : B ≤ b) (u v : Value) : Below B w ((w1.setCell ⟨b, 0, none⟩ u).setCell ⟨b, 1, none⟩ v) := (h.setCell (p := ⟨b, 0, none⟩) hb u).setCell (p := ⟨b, 1, none⟩) hb v

/-- Block g alone has been written; nothing is new. -/
structure Only (g : Nat) (w w' : World) : Prop where
  os : w'.os = w.os
  tape : w'.tape = w.tape
  output : w'.output = w.output
  size : w'.heap.size = w.heap.size
  block : ∀ k, k ≠ g → w'.heap[k]? = w.heap[k]?

/-- 'make([]T, n)' of numbers. -/
theorem wpList_make_nums {P : Program} (w : World) {ops : Array Oper} {rest : List Oper} {o : Oper} {a : Act} {Q : Exit → Act → World → Prop}
    (hg : o.guard = none) (l c : Operand) (t : TypeId) (hop : o.op = Op.makeSlice t l c)
    (e : TypeId) (k : IntKind) (bytes : Nat) (h1 : P.underlying t = some (.slice e)) (h2 : (P.info? e).map (fun i => (i.zero, i.size, i.bytes)) = some (some (.int k 0), 1, bytes))
    (kl kc : IntKind) (L C : Int) (n : Nat) (hl : a.eval l = .int kl L) (hc : a.eval c = .int kc C) (hL : L = (n : Int)) (hC : C = (n : Int)) (hby : bytes ≤ 64) (hnn : n ≤ 10000)
    (hK : ∀ w', Row k e w' w.heap.size (List.replicate n 0) → Below w.heap.size w w' → w'.heap.size = w.heap.size + 1 → wpList P ops Q rest (a.put o.dst (.slice (some ⟨w.heap.size, 0, none⟩) n n)) w') :
    wpList P ops Q (o :: rest) a w := by
  obtain ⟨i, hi, hz0, hz1, hz2⟩ := info_parts h2
  subst hL
  subst hC
  refine wpList_plain hg fun K hK' => ?_
  have b2 : bytes * n ≤ 64 * 10000 := Nat.mul_le_mul hby hnn
  have b3' : (n : Int) ≤ 9223372036854775807 := by omega
  have hb' : (i.bytes : Int) * (n : Int) ≤ 281474976710656 := by
    rw [hz2]
    have h : ((bytes * n : Nat) : Int) ≤ 281474976710656 := by omega
    rwa [Int.natCast_mul] at h
  have hr := run_make (P := P) w t e i (.int k 0) h1 hi hz0 kl kc n n (by omega) (Int.le_refl _) hb' b3'
  have e1 : madeCells (Value.int k 0).cells n = ((List.replicate n 0).map fun z => Value.int k ((z : Nat) : Int)).toArray := by
    rw [show (Value.int k 0).cells = #[Value.int k 0] from rfl]
    apply Array.toList_inj.1
    rw [toList_madeCells_one]
    simp
  simp only [Int.toNat_natCast, hz1, Nat.mul_one, e1] at hr
  unfold Oper.wp
  simp [execOp, hop, hl, hc, hr, Result.andThen, -List.map_replicate, -List.toArray_replicate, -List.map_toArray]
  refine hK' _ _ (hK _ (Row.new w k e _) ?_ ?_)
  · exact (Below.refl _ _).alloc (Nat.le_refl _) _
  · simp

/-- 'copy(out, src)', out a row of the call's own, at least as long. -/
theorem wpList_copy_nums {P : Program} {w : World} {ops : Array Oper} {rest : List Oper} {o : Oper} {a : Act} {Q : Exit → Act → World → Prop} (hgd : o.guard = none) (d s : Operand) (dT : TypeId)
    (ho : o.op = .call { callee := .builtin .copy, args := #[d, s], argTypes := #[dT, dT] }) (e : TypeId) (k : IntKind) (bytes : Nat) (h1 : P.underlying dT = some (.slice e)) (h2 : (P.info? e).map (fun i => (i.zero, i.size, i.bytes)) = some (some (.int k 0), 1, bytes))
    (g dLen dCap : Nat) (ao : Option Addr) (n cap : Nat) (hd : a.eval d = .slice (some ⟨g, 0, none⟩) dLen dCap) (hs : a.eval s = .slice ao n cap)
    (zs xs : List Nat) (hg : Row k e w g zs) (hz : zs.length = dLen) (hx : xs.length = n) (hsrc : Seg k w ao xs) (hle : n ≤ dLen)
    (hK : ∀ w', Row k e w' g (xs ++ zs.drop n) → Below g w w' → w'.heap.size = w.heap.size → wpList P ops Q rest (a.put o.dst (goInt n)) w') :
    wpList P ops Q (o :: rest) a w := by
  obtain ⟨i, hi, hz0, hz1, hz2⟩ := info_parts h2
  have hsz : (P.info? e).map (·.size) = some 1 := by rw [hi]; simp [hz1]
  subst hx
  subst hz
  by_cases h0 : xs.length = 0
  · obtain rfl : xs = [] := List.eq_nil_of_length_eq_zero h0
    refine wpList_copy_nothing hgd d s dT dT ho e h1 hsz _ _ _ _ _ _ hd hs (by simp) ?_
    exact hK w (by simpa using hg) (Below.refl _ _) rfl
  · obtain ⟨b, off, rfl, hc⟩ := hsrc.open 0 (by omega)
    refine wpList_copy_own hgd d s dT dT ho e h1 hsz g 0 _ _ ⟨b, off, none⟩ _ _ hd hs _ e hg (xs.map fun z => Value.int k ((z : Nat) : Int)) ?_ ?_ ?_ ?_ ?_
    · rw [List.length_map]; exact (Nat.min_eq_left hle).symm
    · intro j v hv
      have hj : j < xs.length := by simpa using (List.getElem?_eq_some_iff.1 hv).1
      rw [Addr.add_lit, hc j hj]
      simp only [List.getElem?_map, List.getElem?_eq_getElem hj, Option.map_some, Option.some.injEq] at hv
      rw [← hv, List.getD_eq_getElem?_getD, List.getElem?_eq_getElem hj]
      rfl
    · simp; omega
    · intro v hv
      obtain ⟨_, _, rfl⟩ := List.mem_map.1 hv
      rfl
    · have e2 : (goInt ((xs.map fun z => Value.int k ((z : Nat) : Int)).length)) = goInt xs.length := by simp
      rw [e2]
      refine hK _ ?_ (below_setRow (Below.refl _ _) (Nat.le_refl _) _) (by simp [World.setRow])
      unfold Row
      rw [setRow_heap w g _ _ e _ hg]
      simp

end Go.Proofs.Ytmnpefiaelpkfac
/- Contracts of copied and keep; they prove no statement of the seat. -/
namespace Go.Proofs.Ytmnpefiaelpkfac
open Go.RowKit
set_option linter.unusedVariables false
namespace Euf
theorem row_ol {w : World} {g n : Nat} {xs : List Nat} (h : Row .i64 3 w g xs) (hn : xs.length = n) (hm : n ≤ 10000) : OL 1 3 w (.slice (some ⟨g, 0, none⟩) n n) n (natC xs) := by
  refine Or.inr ⟨g, n, _, rfl, h, Nat.le_refl _, by unfold maxLen; omega, by simp [hn], fun i hi j hj => ?_⟩
  obtain rfl : j = 0 := by omega
  have hi' : i < xs.length := by omega
  simp [natC, hi']

set_option maxHeartbeats 400000 in
theorem copied_e (ao : Option Addr) (n cap : Nat) (xs : List Nat) (w : World) (hn : xs.length = n) (h1 : n ≤ 10000) (hs : Seg .i64 w ao xs) :
    Calls Try.prog 39 #[.slice ao n cap] w fun e w' => e = .returned (.slice (some ⟨w.heap.size, 0, none⟩) n n) ∧ OL 1 3 w' (.slice (some ⟨w.heap.size, 0, none⟩) n n) n (natC xs) ∧ Below w.heap.size w w' := by
  have HN : Hid (xs.length = n) := hn
  clear hn
  go_enter Try.func39, Try.ntmps39
  go_wp2_with (first
    | (at_make; refine wpList_make_nums _ rfl _ _ 31 rfl 3 .i64 8 uInts iInt _ _ _ _ n rfl rfl rfl rfl (by decide) h1 ?_; intro w1 hr1 hb1 hz1)
    | (refine wpList_copy_nums rfl (.tmp 7) (.tmp 8) 31 rfl 3 .i64 8 uInts iInt _ n n ao n cap rfl rfl _ xs hr1 (by simp) HN.out (hs.below hb1) (Nat.le_refl _) ?_; intro w2 hr2 hb2 hz2))
  go_ret
  refine ⟨rfl, ?_, hb1.trans hb2⟩
  exact row_ol (by simpa using hr2) HN.out h1
theorem uParts : Try.prog.underlying 66 = some (.slice 96) := by kernel_rfl
theorem iPart : (Try.prog.info? 96).map (fun i => (i.zero, i.size, i.bytes)) = some (some (.agg #[.int .i64 0, .int .i64 0, .int .i64 0]), 3, 24) := by kernel_rfl
/-- One part more. -/
theorem CW.pushPart {w : World} {g : Nat} {x : Lx} {f : Fx} {m : Nat} {y : Ly} {s : Sx} (h : CW w g x f m y s) (hn : f.np + 1 ≤ 10000) (p : Part) {w1 : World} {v : Value} (hap : App x.vP v w w1) (hol : OL 3 96 w1 v (f.np + 1) (partC (upd f.P f.np p))) :
    CW (w1.setCell ⟨g, 4, none⟩ v) g { x with vP := v } { f with np := f.np + 1, P := upd f.P f.np p } m y s ∧ Mv (fun b => b = g ∨ x.vP.ownBlock = some b) w (w1.setCell ⟨g, 4, none⟩ v) := by
  have keep : ∀ b, b < w.heap.size → x.vP.ownBlock ≠ some b → b ≠ g → (w1.setCell ⟨g, 4, none⟩ v).heap[b]? = w.heap[b]? := fun b hb h1 h2 => (heap_setCell_other w1 ⟨g, 4, none⟩ b v h2).trans (hap.other b hb h1)
  have hg : w1.heap[g]? = _ := (hap.other g h.lt (h.parts.neB h.blk (by decide))).trans h.blk
  have other : ∀ {sz : Nat} {e : TypeId} {v' : Value} {n : Nat} {f' : Nat → List Value}, OL sz e w v' n f' → e ≠ 96 → e ≠ 73 → OL sz e (w1.setCell ⟨g, 4, none⟩ v) v' n f' := by
    intro sz e v' n f' ho h1 h2
    refine ho.stay fun b hb => keep b (ho.lt hb) (fun hc => ho.ne h.parts h1 hb hc) (fun e' => ho.neB h.blk h2 (by rw [hb, e']))
  have hsm := h.small
  refine ⟨{ blk := ?_, parts := ?_, whole := other h.whole (by decide) (by decide), eqs := other h.eqs (by decide) (by decide), spots := other h.spots (by decide) (by decide), uses := fun i hi => other (h.uses i hi) (by decide) (by decide), claims := other h.claims (by decide) (by decide), sig := ?_, apart := h.apart, apartW := h.apartW, small := ⟨hn, by show s.ns ≤ f.np + 1; omega⟩ }, ?_⟩
  · exact (heap_setCell_same w1 g 4 _ 73 v hg).trans rfl
  · exact hol.stay fun b hb => heap_setCell_other w1 ⟨g, 4, none⟩ b v (fun e' => hol.neB hg (by decide) (by rw [hb, e']))
  · exact h.sig.stay (keep _ h.sig.lt (fun hc => h.parts.neM h.sig hc) (fun e' => by
      obtain ⟨es, cl, he⟩ := h.sig.isMap
      rw [e', h.blk] at he
      cases he))
  · exact ⟨hap.os, hap.tape, hap.output, by simp; exact hap.size, fun b hb hn => keep b hb (fun hc => hn (Or.inr hc)) (fun e' => hn (Or.inl e'))⟩

set_option maxRecDepth 20000 in
set_option maxHeartbeats 4000000 in
theorem keep_any (g : Nat) (x : Lx) (f : Fx) (m : Nat) (y : Ly) (s : Sx) (fr ar : Int) (w : World) (h : CW w g x f m y s) (hn : f.np + 1 ≤ 10000) :
    Calls Try.prog 56 #[.pointer (some ⟨g, 2, none⟩), .int .i64 fr, .int .i64 ar] w fun e w' => e = .returned (.int .i64 (f.np : Nat)) ∧
      ∃ v, CW w' g { x with vP := v } { f with np := f.np + 1, P := upd f.P f.np ⟨fr, ar, -1⟩ } m y s ∧ Mv (fun b => b = g ∨ x.vP.ownBlock = some b) w w' ∧ (v.ownBlock = x.vP.ownBlock ∨ ∃ b, v.ownBlock = some b ∧ w.heap.size ≤ b) := by
  have HCW : Hid (CW w g x f m y s) := h
  obtain ⟨-, -, -, -, c4, -, -, -, -, -⟩ := h.cells
  have hgl := h.lt
  have hp := h.parts
  have h4 := h.alloc (.cells #[.int .i64 fr, .int .i64 ar, .int .i64 (-1)] 96 (0, 0))
  clear h
  go_enter Try.func56, Try.ntmps56
  go_wp2_with (at_builtin; refine Stop.of ?_)
  show wpList _ _ _ _ _ _
  refine wpList_push rfl (.tmp 11) (.tmp 15) 66 rfl 3 96 _ 24 uParts iPart (by decide) rfl (by decide) x.vP f.np _ rfl [.int .i64 fr, .int .i64 ar, .int .i64 (-1)] 96 h4.parts (fun _ _ => rfl) 1 rfl rfl (by intro u hu; simp at hu; rcases hu with rfl | rfl | rfl <;> rfl) (by omega) (partC (upd f.P f.np ⟨fr, ar, -1⟩)) (fun k hk => by simp [partC, upd, Nat.ne_of_lt hk]) (by simp [partC, upd]) ?_
  intro v w1 hol hap hne
  replace hap := hap.of_alloc (fun b hb => hp.lt hb)
  obtain ⟨k1, k2⟩ := HCW.out.pushPart hn ⟨fr, ar, -1⟩ hap hol
  have hg1 : w1.heap[g]? = _ := (hap.other g hgl (hp.neB HCW.out.blk (by decide))).trans HCW.out.blk
  have c41 : w1.cell? ⟨g, 4, none⟩ = some x.vP := cell_of_row w1 g 4 _ 73 (0, 0) hg1
  have q41 : w1.frozen? ⟨g, 4, none⟩ = false := frozen_of_row w1 g 4 _ 73 hg1
  have hgl1 : g < w1.heap.size := (Array.getElem?_eq_some_iff.1 hg1).1
  obtain ⟨ao, cc, hv', -, -, -, -⟩ := hol.shape
  subst hv'
  have hat := hap.at_
  have HKK : Hid _ := And.intro k1 (And.intro k2 hat)
  clear hg1 hol hap h4 hp c4 k1 k2 hat hne
  go_wp2
  go_ret
  exact ⟨rfl, _, HKK.out.1, HKK.out.2.1, HKK.out.2.2⟩
end Euf
end Go.Proofs.Ytmnpefiaelpkfac
/- Terms kept in parts: what tables and parts say of each other; no statement of the seat is proved here. -/
namespace Go.Proofs.Ytmnpefiaelpkfac
open Go.RowKit
set_option linter.unusedVariables false
namespace Euf
/-- What a part is: its function, for how many arguments, and those that it has. -/
abbrev Lab := ByteArray × Nat × List Nat
structure Tx where
  nn : Nat
  N : Nat → ByteArray × List Nat
  lab : Nat → Lab
  hd : ByteArray × Nat → Option Nat
  pr : Nat × Nat → Option Nat
def fullLab (n : ByteArray × List Nat) : Lab := (n.1, n.2.length, n.2)
/-- Tables, parts and nodes say the same; but the part 'ex' may lack its node. -/
structure TOk (f : Fx) (t : Tx) (ex : Option Lab) : Prop where
  nw : f.nw = t.nn
  inj : ∀ i j, i < f.np → j < f.np → t.lab i = t.lab j → i = j
  hd1 : ∀ s n p, t.hd (s, n) = some p → p < f.np ∧ t.lab p = (s, n, [])
  hd2 : ∀ s n p, p < f.np → t.lab p = (s, n, []) → t.hd (s, n) = some p
  pr1 : ∀ p q r, t.pr (p, q) = some r → r < f.np ∧ p < f.np ∧ ∃ s n l a, t.lab p = (s, n, l) ∧ a < t.nn ∧ f.W a = q ∧ t.lab r = (s, n, l ++ [a])
  pr2 : ∀ r s n l a p, r < f.np → t.lab r = (s, n, l ++ [a]) → p < f.np → t.lab p = (s, n, l) → t.pr (p, f.W a) = some r
  pre : ∀ r s n l a, r < f.np → t.lab r = (s, n, l ++ [a]) → a < t.nn ∧ f.W a < r ∧ ∃ p, p < r ∧ t.lab p = (s, n, l) ∧ (f.P r).front = (p : Nat) ∧ (f.P r).arg = (f.W a : Nat)
  root : ∀ r s n, r < f.np → t.lab r = (s, n, []) → (f.P r).front = -1
  whole : ∀ a, a < t.nn → f.W a < f.np ∧ t.lab (f.W a) = fullLab (t.N a) ∧ (f.P (f.W a)).node = (a : Nat)
  node : ∀ r s n l, r < f.np → t.lab r = (s, n, l) → l.length ≤ n ∧ (some (s, n, l) ≠ ex → l.length = n → ∃ a, a < t.nn ∧ f.W a = r) ∧ ((l.length < n ∨ some (s, n, l) = ex) → (f.P r).node = -1)
  args : ∀ a, a < t.nn → ∀ b ∈ (t.N a).2, b < a
section
variable {f : Fx} {t : Tx} {ex : Option Lab}
theorem TOk.Winj (h : TOk f t ex) {a b : Nat} (ha : a < t.nn) (hb : b < t.nn) (e : f.W a = f.W b) : a = b := by
  have h1 := (h.whole a ha).2.2
  have h2 := (h.whole b hb).2.2
  rw [e, h2] at h1
  omega
theorem TOk.partsOk (h : TOk f t ex) : PartsOk f.np f.P := by
  intro r hr
  obtain ⟨s, n, l⟩ : Lab := t.lab r
  generalize hl : t.lab r = lb
  obtain ⟨s, n, l⟩ := lb
  rcases List.eq_nil_or_concat l with e | ⟨l', a, e⟩
  · subst e; exact Or.inl (h.root r s n hr hl)
  · rw [List.concat_eq_append] at e; subst e
    obtain ⟨_, h1, p, h2, _, h3, h4⟩ := h.pre r s n l' a hr hl
    exact Or.inr ⟨by omega, by omega, by omega, by omega⟩
/-- Whatever has more arguments was made of what has fewer. -/
theorem TOk.prefix (h : TOk f t ex) {s : ByteArray} {n : Nat} (l : List Nat) : ∀ (l2 : List Nat) (r : Nat), r < f.np → t.lab r = (s, n, l ++ l2) → ∃ p, p < f.np ∧ t.lab p = (s, n, l) := by
  intro l2
  induction hn : l2.length generalizing l2 with
  | zero =>
    intro r hr hl
    have : l2 = [] := List.eq_nil_of_length_eq_zero hn
    subst this
    exact ⟨r, hr, by simpa using hl⟩
  | succ k ih =>
    intro r hr hl
    rcases List.eq_nil_or_concat l2 with e | ⟨l', a, e⟩
    · subst e; simp at hn
    · rw [List.concat_eq_append] at e; subst e
      rw [← List.append_assoc] at hl
      obtain ⟨_, _, p, h2, h3, _⟩ := h.pre r s n (l ++ l') a hr hl
      exact ih l' (by simpa using hn) p (by omega) h3
/-- A node of that function and these arguments is just a whole part. -/
theorem TOk.same (h : TOk f t none) {r : Nat} {s : ByteArray} {l : List Nat} (hr : r < f.np) (hl : t.lab r = (s, l.length, l)) : ∃ a, a < t.nn ∧ f.W a = r ∧ t.N a = (s, l) ∧ (f.P r).node = (a : Nat) := by
  obtain ⟨a, ha, hw⟩ := (h.node r s l.length l hr hl).2.1 (by simp) rfl
  obtain ⟨_, h2, h3⟩ := h.whole a ha
  rw [hw, hl] at h2
  rw [hw] at h3
  simp only [fullLab, Prod.mk.injEq] at h2
  exact ⟨a, ha, hw, by rw [h2.1, h2.2.2], h3⟩
theorem TOk.one (h : TOk f t none) {a b : Nat} (ha : a < t.nn) (hb : b < t.nn) (e : t.N a = t.N b) : a = b := by
  have h1 := h.whole a ha
  have h2 := h.whole b hb
  rw [e] at h1
  exact h.Winj ha hb (h.inj _ _ h1.1 h2.1 (h1.2.1.trans h2.2.1.symm))
/-- A new head. -/
theorem TOk.newHead (h : TOk f t ex) {s : ByteArray} {n : Nat} (hno : t.hd (s, n) = none) (hex : n = 0 → ex = some (s, n, [])) (P' : Nat → Part) (hP : P' = upd f.P f.np ⟨-1, -1, -1⟩) :
    TOk { f with np := f.np + 1, P := P' } { t with lab := upd t.lab f.np (s, n, []), hd := fun k => if k = (s, n) then some f.np else t.hd k } ex := by
  subst hP
  have hne : ∀ i, i < f.np → t.lab i ≠ (s, n, []) := fun i hi e => by rw [h.hd2 s n i hi e] at hno; cases hno
  have L : ∀ i, i < f.np → upd t.lab f.np (s, n, []) i = t.lab i := fun i hi => upd_other _ _ (by omega)
  have PL : ∀ i, i < f.np → upd f.P f.np ⟨-1, -1, -1⟩ i = f.P i := fun i hi => upd_other _ _ (by omega)
  refine { nw := h.nw, inj := ?_, hd1 := ?_, hd2 := ?_, pr1 := ?_, pr2 := ?_, pre := ?_, root := ?_, whole := ?_, node := ?_, args := h.args }
  · intro i j hi hj e
    replace hi : i < f.np + 1 := hi
    replace hj : j < f.np + 1 := hj
    replace e : upd t.lab f.np (s, n, []) i = upd t.lab f.np (s, n, []) j := e
    by_cases e1 : i = f.np
    · by_cases e2 : j = f.np
      · omega
      · subst e1; rw [upd_same, L j (by omega)] at e; exact absurd e.symm (hne j (by omega))
    · by_cases e2 : j = f.np
      · subst e2; rw [upd_same, L i (by omega)] at e; exact absurd e (hne i (by omega))
      · rw [L i (by omega), L j (by omega)] at e; exact h.inj i j (by omega) (by omega) e
  · intro s' n' p hp
    show p < f.np + 1 ∧ upd t.lab f.np (s, n, []) p = (s', n', [])
    replace hp : (if (s', n') = (s, n) then some f.np else t.hd (s', n')) = some p := hp
    split at hp
    · rename_i e; cases hp; injection e with e1 e2; subst e1 e2; exact ⟨by omega, upd_same _ _ _⟩
    · obtain ⟨h1, h2⟩ := h.hd1 s' n' p hp; exact ⟨by omega, by rw [L p h1]; exact h2⟩
  · intro s' n' p hp hl
    replace hp : p < f.np + 1 := hp
    replace hl : upd t.lab f.np (s, n, []) p = (s', n', []) := hl
    show (if (s', n') = (s, n) then some f.np else t.hd (s', n')) = some p
    by_cases e : p = f.np
    · subst e; rw [upd_same] at hl; cases hl; simp
    · rw [L p (by omega)] at hl
      have hne' : (s', n') ≠ (s, n) := fun e2 => by injection e2 with e1 e2; subst e1 e2; exact hne p (by omega) hl
      rw [if_neg hne']; exact h.hd2 s' n' p (by omega) hl
  · intro p q r hr
    obtain ⟨h1, h2, s', n', l, a, h3, h4, h5, h6⟩ := h.pr1 p q r hr
    exact ⟨Nat.lt_succ_of_lt h1, Nat.lt_succ_of_lt h2, s', n', l, a, (L p h2).trans h3, h4, h5, (L r h1).trans h6⟩
  · intro r s' n' l a p hr hl hp hl2
    replace hr : r < f.np + 1 := hr
    replace hp : p < f.np + 1 := hp
    replace hl : upd t.lab f.np (s, n, []) r = (s', n', l ++ [a]) := hl
    replace hl2 : upd t.lab f.np (s, n, []) p = (s', n', l) := hl2
    have e1 : r ≠ f.np := fun e => by subst e; rw [upd_same] at hl; simp at hl
    rw [L r (by omega)] at hl
    by_cases e2 : p = f.np
    · subst e2; rw [upd_same] at hl2
      obtain ⟨_, _, p', h2, h3, _⟩ := h.pre r s' n' l a (by omega) hl
      rw [← hl2] at h3
      exact absurd h3 (hne p' (by omega))
    · rw [L p (by omega)] at hl2
      exact h.pr2 r s' n' l a p (by omega) hl (by omega) hl2
  · intro r s' n' l a hr hl
    replace hr : r < f.np + 1 := hr
    replace hl : upd t.lab f.np (s, n, []) r = (s', n', l ++ [a]) := hl
    have e1 : r ≠ f.np := fun e => by subst e; rw [upd_same] at hl; simp at hl
    rw [L r (by omega)] at hl
    obtain ⟨h1, h2, p, h3, h4, h5, h6⟩ := h.pre r s' n' l a (by omega) hl
    refine ⟨h1, h2, p, h3, (L p (by omega)).trans h4, ?_, ?_⟩
    · show (upd f.P f.np ⟨-1, -1, -1⟩ r).front = _; rw [PL r (by omega)]; exact h5
    · show (upd f.P f.np ⟨-1, -1, -1⟩ r).arg = _; rw [PL r (by omega)]; exact h6
  · intro r s' n' hr hl
    replace hr : r < f.np + 1 := hr
    replace hl : upd t.lab f.np (s, n, []) r = (s', n', []) := hl
    show (upd f.P f.np ⟨-1, -1, -1⟩ r).front = -1
    by_cases e : r = f.np
    · subst e; rw [upd_same]
    · rw [PL r (by omega)]; rw [L r (by omega)] at hl; exact h.root r s' n' (by omega) hl
  · intro a ha
    obtain ⟨h1, h2, h3⟩ := h.whole a ha
    refine ⟨Nat.lt_succ_of_lt h1, (L _ h1).trans h2, ?_⟩
    show (upd f.P f.np ⟨-1, -1, -1⟩ (f.W a)).node = _; rw [PL _ h1]; exact h3
  · intro r s' n' l hr hl
    replace hr : r < f.np + 1 := hr
    replace hl : upd t.lab f.np (s, n, []) r = (s', n', l) := hl
    show l.length ≤ n' ∧ (some (s', n', l) ≠ ex → l.length = n' → ∃ a, a < t.nn ∧ f.W a = r) ∧ ((l.length < n' ∨ some (s', n', l) = ex) → (upd f.P f.np ⟨-1, -1, -1⟩ r).node = -1)
    by_cases e : r = f.np
    · subst e; rw [upd_same] at hl ⊢
      cases hl
      refine ⟨Nat.zero_le _, fun h1 h2 => ?_, fun _ => rfl⟩
      have h0 : n = 0 := h2.symm
      exact absurd (hex h0).symm h1
    · rw [PL r (by omega)]; rw [L r (by omega)] at hl; exact h.node r s' n' l (by omega) hl
/-- A new part with one argument more. -/
theorem TOk.newPart (h : TOk f t ex) {s : ByteArray} {n : Nat} {l : List Nat} {a p : Nat} (hp : p < f.np) (hl : t.lab p = (s, n, l)) (ha : a < t.nn) (hln : l.length < n) (hno : t.pr (p, f.W a) = none) (hex : l.length + 1 = n → ex = some (s, n, l ++ [a])) (P' : Nat → Part) (hP : P' = upd f.P f.np ⟨(p : Nat), (f.W a : Nat), -1⟩) :
    TOk { f with np := f.np + 1, P := P' } { t with lab := upd t.lab f.np (s, n, l ++ [a]), pr := fun k => if k = (p, f.W a) then some f.np else t.pr k } ex := by
  subst hP
  have hne : ∀ i, i < f.np → t.lab i ≠ (s, n, l ++ [a]) := fun i hi e => by rw [h.pr2 i s n l a p hi e hp hl] at hno; cases hno
  have L : ∀ i, i < f.np → upd t.lab f.np (s, n, l ++ [a]) i = t.lab i := fun i hi => upd_other _ _ (by omega)
  have PL : ∀ i, i < f.np → upd f.P f.np ⟨(p : Nat), (f.W a : Nat), -1⟩ i = f.P i := fun i hi => upd_other _ _ (by omega)
  have hWa := (h.whole a ha).1
  refine { nw := h.nw, inj := ?_, hd1 := ?_, hd2 := ?_, pr1 := ?_, pr2 := ?_, pre := ?_, root := ?_, whole := ?_, node := ?_, args := h.args }
  · intro i j hi hj e
    replace hi : i < f.np + 1 := hi
    replace hj : j < f.np + 1 := hj
    replace e : upd t.lab f.np (s, n, l ++ [a]) i = upd t.lab f.np (s, n, l ++ [a]) j := e
    by_cases e1 : i = f.np
    · by_cases e2 : j = f.np
      · omega
      · subst e1; rw [upd_same, L j (by omega)] at e; exact absurd e.symm (hne j (by omega))
    · by_cases e2 : j = f.np
      · subst e2; rw [upd_same, L i (by omega)] at e; exact absurd e (hne i (by omega))
      · rw [L i (by omega), L j (by omega)] at e; exact h.inj i j (by omega) (by omega) e
  · intro s' n' q hq
    obtain ⟨h1, h2⟩ := h.hd1 s' n' q hq; exact ⟨Nat.lt_succ_of_lt h1, (L q h1).trans h2⟩
  · intro s' n' q hq hl'
    replace hq : q < f.np + 1 := hq
    replace hl' : upd t.lab f.np (s, n, l ++ [a]) q = (s', n', []) := hl'
    have e1 : q ≠ f.np := fun e => by subst e; rw [upd_same] at hl'; simp at hl'
    rw [L q (by omega)] at hl'
    exact h.hd2 s' n' q (by omega) hl'
  · intro p' q' r hr
    replace hr : (if (p', q') = (p, f.W a) then some f.np else t.pr (p', q')) = some r := hr
    show r < f.np + 1 ∧ p' < f.np + 1 ∧ ∃ s' n' l' a', upd t.lab f.np (s, n, l ++ [a]) p' = (s', n', l') ∧ a' < t.nn ∧ f.W a' = q' ∧ upd t.lab f.np (s, n, l ++ [a]) r = (s', n', l' ++ [a'])
    split at hr
    · rename_i e; cases hr; injection e with e1 e2; subst e1 e2
      exact ⟨by omega, by omega, s, n, l, a, (L p' hp).trans hl, ha, rfl, upd_same _ _ _⟩
    · obtain ⟨h1, h2, s', n', l', a', h3, h4, h5, h6⟩ := h.pr1 p' q' r hr
      exact ⟨by omega, by omega, s', n', l', a', (L p' h2).trans h3, h4, h5, (L r h1).trans h6⟩
  · intro r s' n' l' a' p' hr hl1 hp' hl2
    replace hr : r < f.np + 1 := hr
    replace hp' : p' < f.np + 1 := hp'
    replace hl1 : upd t.lab f.np (s, n, l ++ [a]) r = (s', n', l' ++ [a']) := hl1
    replace hl2 : upd t.lab f.np (s, n, l ++ [a]) p' = (s', n', l') := hl2
    show (if (p', f.W a') = (p, f.W a) then some f.np else t.pr (p', f.W a')) = some r
    by_cases e1 : r = f.np
    · subst e1
      rw [upd_same] at hl1
      simp only [Prod.mk.injEq] at hl1
      obtain ⟨rfl, rfl, hll⟩ := hl1
      have hll2 := List.append_inj' hll rfl
      obtain ⟨rfl, haa⟩ := hll2
      cases haa
      have e3 : p' ≠ f.np := fun e => by
        subst e; rw [upd_same] at hl2
        simp only [Prod.mk.injEq, true_and] at hl2
        have := congrArg List.length hl2
        simp at this
      rw [L p' (by omega)] at hl2
      have : p' = p := h.inj p' p (by omega) hp (hl2.trans hl.symm)
      rw [this]; simp
    · rw [L r (by omega)] at hl1
      by_cases e2 : p' = f.np
      · subst e2; rw [upd_same] at hl2
        obtain ⟨_, _, p'', h2, h3, _⟩ := h.pre r s' n' l' a' (by omega) hl1
        rw [← hl2] at h3
        exact absurd h3 (hne p'' (by omega))
      · rw [L p' (by omega)] at hl2
        have h9 := h.pr2 r s' n' l' a' p' (by omega) hl1 (by omega) hl2
        have hne2 : (p', f.W a') ≠ (p, f.W a) := fun e => by
          injection e with e3 e4
          rw [e3, e4, hno] at h9; cases h9
        rw [if_neg hne2]; exact h9
  · intro r s' n' l' a' hr hl1
    replace hr : r < f.np + 1 := hr
    replace hl1 : upd t.lab f.np (s, n, l ++ [a]) r = (s', n', l' ++ [a']) := hl1
    by_cases e1 : r = f.np
    · subst e1
      rw [upd_same] at hl1
      simp only [Prod.mk.injEq] at hl1
      obtain ⟨rfl, rfl, hll⟩ := hl1
      obtain ⟨rfl, haa⟩ := List.append_inj' hll rfl
      cases haa
      refine ⟨ha, hWa, p, hp, (L p hp).trans hl, ?_, ?_⟩
      · show (upd f.P f.np ⟨(p : Nat), (f.W a : Nat), -1⟩ f.np).front = _; rw [upd_same]
      · show (upd f.P f.np ⟨(p : Nat), (f.W a : Nat), -1⟩ f.np).arg = _; rw [upd_same]
    · rw [L r (by omega)] at hl1
      obtain ⟨h1, h2, p', h3, h4, h5, h6⟩ := h.pre r s' n' l' a' (by omega) hl1
      refine ⟨h1, h2, p', h3, (L p' (by omega)).trans h4, ?_, ?_⟩
      · show (upd f.P f.np ⟨(p : Nat), (f.W a : Nat), -1⟩ r).front = _; rw [PL r (by omega)]; exact h5
      · show (upd f.P f.np ⟨(p : Nat), (f.W a : Nat), -1⟩ r).arg = _; rw [PL r (by omega)]; exact h6
  · intro r s' n' hr hl1
    replace hr : r < f.np + 1 := hr
    replace hl1 : upd t.lab f.np (s, n, l ++ [a]) r = (s', n', []) := hl1
    have e1 : r ≠ f.np := fun e => by subst e; rw [upd_same] at hl1; simp at hl1
    rw [L r (by omega)] at hl1
    show (upd f.P f.np ⟨(p : Nat), (f.W a : Nat), -1⟩ r).front = -1
    rw [PL r (by omega)]; exact h.root r s' n' (by omega) hl1
  · intro b hb
    obtain ⟨h1, h2, h3⟩ := h.whole b hb
    refine ⟨Nat.lt_succ_of_lt h1, (L _ h1).trans h2, ?_⟩
    show (upd f.P f.np ⟨(p : Nat), (f.W a : Nat), -1⟩ (f.W b)).node = _; rw [PL _ h1]; exact h3
  · intro r s' n' l' hr hl1
    replace hr : r < f.np + 1 := hr
    replace hl1 : upd t.lab f.np (s, n, l ++ [a]) r = (s', n', l') := hl1
    show l'.length ≤ n' ∧ (some (s', n', l') ≠ ex → l'.length = n' → ∃ a, a < t.nn ∧ f.W a = r) ∧ ((l'.length < n' ∨ some (s', n', l') = ex) → (upd f.P f.np ⟨(p : Nat), (f.W a : Nat), -1⟩ r).node = -1)
    by_cases e : r = f.np
    · subst e; rw [upd_same] at hl1 ⊢
      cases hl1
      refine ⟨by simp; omega, fun h1 h2 => ?_, fun _ => rfl⟩
      have h0 : l.length + 1 = n := by simpa using h2
      exact absurd (hex h0).symm h1
    · rw [PL r (by omega)]; rw [L r (by omega)] at hl1; exact h.node r s' n' l' (by omega) hl1
/-- The part gets its node. -/
theorem TOk.newNode {s : ByteArray} {l : List Nat} {p : Nat} (h : TOk f t (some (s, l.length, l))) (hp : p < f.np) (hl : t.lab p = (s, l.length, l)) (hal : ∀ b ∈ l, b < t.nn) (hfr : ∀ b, b < t.nn → f.W b ≠ p) (P' : Nat → Part) (hP : P' = upd f.P p { f.P p with node := (t.nn : Nat) }) (W' : Nat → Nat) (hW : W' = upd f.W t.nn p) (N' : Nat → ByteArray × List Nat) (hN : N' = upd t.N t.nn (s, l)) :
    TOk { f with P := P', nw := f.nw + 1, W := W' } { t with nn := t.nn + 1, N := N' } none := by
  subst hP hW hN
  have WL : ∀ b, b < t.nn → upd f.W t.nn p b = f.W b := fun b hb => upd_other _ _ (by omega)
  have NL : ∀ b, b < t.nn → upd t.N t.nn (s, l) b = t.N b := fun b hb => upd_other _ _ (by omega)
  have PF : ∀ r, (upd f.P p { f.P p with node := (t.nn : Nat) } r).front = (f.P r).front ∧ (upd f.P p { f.P p with node := (t.nn : Nat) } r).arg = (f.P r).arg := fun r => by
    by_cases e : r = p
    · subst e; rw [upd_same]; exact ⟨rfl, rfl⟩
    · rw [upd_other _ _ e]; exact ⟨rfl, rfl⟩
  refine { nw := ?_, inj := h.inj, hd1 := h.hd1, hd2 := h.hd2, pr1 := ?_, pr2 := ?_, pre := ?_, root := ?_, whole := ?_, node := ?_, args := ?_ }
  · show f.nw + 1 = t.nn + 1; rw [h.nw]
  · intro p' q r hr
    obtain ⟨h1, h2, s', n', l', a, h3, h4, h5, h6⟩ := h.pr1 p' q r hr
    exact ⟨h1, h2, s', n', l', a, h3, Nat.lt_succ_of_lt h4, (WL a h4).trans h5, h6⟩
  · intro r s' n' l' a p' hr hl1 hp' hl2
    obtain ⟨h1, _⟩ := h.pre r s' n' l' a hr hl1
    show t.pr (p', upd f.W t.nn p a) = some r
    rw [WL a h1]
    exact h.pr2 r s' n' l' a p' hr hl1 hp' hl2
  · intro r s' n' l' a hr hl1
    obtain ⟨h1, h2, p', h3, h4, h5, h6⟩ := h.pre r s' n' l' a hr hl1
    show a < t.nn + 1 ∧ upd f.W t.nn p a < r ∧ ∃ p', p' < r ∧ t.lab p' = (s', n', l') ∧ (upd f.P p { f.P p with node := (t.nn : Nat) } r).front = (p' : Nat) ∧ (upd f.P p { f.P p with node := (t.nn : Nat) } r).arg = (upd f.W t.nn p a : Nat)
    rw [WL a h1, (PF r).1, (PF r).2]
    exact ⟨by omega, h2, p', h3, h4, h5, h6⟩
  · intro r s' n' hr hl1
    show (upd f.P p { f.P p with node := (t.nn : Nat) } r).front = -1
    rw [(PF r).1]; exact h.root r s' n' hr hl1
  · intro a ha
    replace ha : a < t.nn + 1 := ha
    show upd f.W t.nn p a < f.np ∧ t.lab (upd f.W t.nn p a) = fullLab (upd t.N t.nn (s, l) a) ∧ (upd f.P p { f.P p with node := (t.nn : Nat) } (upd f.W t.nn p a)).node = (a : Nat)
    by_cases e : a = t.nn
    · subst e; rw [upd_same, upd_same, upd_same]; exact ⟨hp, hl, rfl⟩
    · have ha' : a < t.nn := by omega
      obtain ⟨h1, h2, h3⟩ := h.whole a ha'
      rw [WL a ha', NL a ha', upd_other _ _ (hfr a ha')]
      exact ⟨h1, h2, h3⟩
  · intro r s' n' l' hr hl1
    obtain ⟨h1, h2, h3⟩ := h.node r s' n' l' hr hl1
    show l'.length ≤ n' ∧ (some (s', n', l') ≠ none → l'.length = n' → ∃ a, a < t.nn + 1 ∧ upd f.W t.nn p a = r) ∧ ((l'.length < n' ∨ some (s', n', l') = none) → (upd f.P p { f.P p with node := (t.nn : Nat) } r).node = -1)
    refine ⟨h1, fun _ h4 => ?_, fun h4 => ?_⟩
    · by_cases e : r = p
      · exact ⟨t.nn, by omega, by rw [upd_same, e]⟩
      · obtain ⟨a, ha, hw⟩ := h2 (fun e2 => e (by
          injection e2 with e2
          exact h.inj r p hr hp (by rw [hl1, hl, e2]))) h4
        exact ⟨a, by omega, by rw [WL a ha]; exact hw⟩
    · have h5 : l'.length < n' := by
        rcases h4 with h4 | h4
        · exact h4
        · cases h4
      have e : r ≠ p := fun e => by
        subst e; rw [hl] at hl1; cases hl1; omega
      rw [upd_other _ _ e]; exact h3 (Or.inl h5)
  · intro a ha b hb
    replace ha : a < t.nn + 1 := ha
    replace hb : b ∈ (upd t.N t.nn (s, l) a).2 := hb
    by_cases e : a = t.nn
    · subst e; rw [upd_same] at hb; exact hal b hb
    · rw [NL a (by omega)] at hb; exact h.args a (by omega) b hb
/-- While a node is being added its part may lack it. -/
theorem TOk.open (h : TOk f t none) (s : ByteArray) (l : List Nat) (hno : ∀ a, a < t.nn → t.N a ≠ (s, l)) : TOk f t (some (s, l.length, l)) := by
  refine { h with node := fun r s' n' l' hr hl => ?_ }
  obtain ⟨h1, h2, h3⟩ := h.node r s' n' l' hr hl
  refine ⟨h1, fun _ => h2 (by simp), fun h4 => ?_⟩
  rcases h4 with h4 | h4
  · exact h3 (Or.inl h4)
  · exfalso
    injection h4 with h4
    simp only [Prod.mk.injEq] at h4
    obtain ⟨rfl, rfl, rfl⟩ := h4
    obtain ⟨a, ha, _, hn, _⟩ := h.same hr hl
    exact hno a ha hn
end
end Euf
end Go.Proofs.Ytmnpefiaelpkfac
/- The whole graph in the machine; the contract of find; no statement of the seat is proved here. -/
namespace Go.Proofs.Ytmnpefiaelpkfac
open Go.RowKit
set_option linter.unusedVariables false
namespace Euf
def hdF (hd : ByteArray × Nat → Option Nat) : Value → Option Int
  | .agg cs => match cs.toList with
    | [.string s, .int .i64 n] => if 0 ≤ n then Option.map Int.ofNat (hd (s, n.toNat)) else none
    | _ => none
  | _ => none
theorem hdF_at (hd : ByteArray × Nat → Option Nat) (s : ByteArray) (n : Nat) : hdF hd (.agg #[.string s, .int .i64 (n : Nat)]) = Option.map Int.ofNat (hd (s, n)) := by simp [hdF]
theorem hdF_some {hd : ByteArray × Nat → Option Nat} {v : Value} {z : Int} (h : hdF hd v = some z) : ∃ s, ∃ n q : Nat, v = .agg #[.string s, .int .i64 (n : Nat)] ∧ hd (s, n) = some q ∧ z = (q : Nat) := by
  unfold hdF at h
  split at h
  · rename_i cs
    split at h
    · rename_i p q hcs
      split at h
      · rename_i hpq
        obtain ⟨r, hr, rfl⟩ := Option.map_eq_some_iff.1 h
        refine ⟨p, q.toNat, r, ?_, hr, rfl⟩
        have : cs = #[.string p, .int .i64 q] := by
          apply Array.toList_inj.1; rw [hcs]
        rw [this, Int.toNat_of_nonneg hpq]
      · cases h
    · cases h
  · cases h
theorem hdF_other {hd hd' : ByteArray × Nat → Option Nat} {s : ByteArray} {n : Nat} (h : ∀ k, k ≠ (s, n) → hd' k = hd k) : ∀ v, v ≠ Value.agg #[.string s, .int .i64 (n : Nat)] → hdF hd' v = hdF hd v := by
  intro v hv
  have one : ∀ (a b : ByteArray × Nat → Option Nat), (∀ k, k ≠ (s, n) → a k = b k) → ∀ z, hdF a v = some z → hdF b v = some z := by
    intro a b hst z hz
    obtain ⟨p, q, r, rfl, h1, rfl⟩ := hdF_some hz
    have hne : (p, q) ≠ (s, n) := by
      intro e
      injection e with e1 e2
      subst e1 e2
      exact hv rfl
    rw [hdF_at, ← hst _ hne, h1]; rfl
  cases h1 : hdF hd' v with
  | some z => exact (one _ _ h z h1).symm
  | none =>
    cases h2 : hdF hd v with
    | none => rfl
    | some z => rw [one _ _ (fun k hk => (h k hk).symm) z h2] at h1; cases h1
theorem uHead : Try.prog.underlying 64 = some (.map 118 3) := by kernel_rfl
theorem cHead : Try.prog.cellsOf 118 = 2 := by kernel_rfl
theorem cStr : Try.prog.cellsOf 9 = 1 := by kernel_rfl
theorem wideHead : (match Try.prog.underlying 118 with | some (.array _ _) | some (.struct _) => true | _ => false) = true := by kernel_rfl
set_option maxRecDepth 100000 in
theorem lawHead : Maps.Keyed Try.prog 118 := Maps.Keyed.of_law (deep_law_laid laidOut (m := 2) (by omega) (of_decide_eq_true (by kernel_rfl)) (by kernel_rfl) wideHead)
theorem keyHead {s : ByteArray} {n : Nat} (hs : s.size ≤ maxLen) (hn : n ≤ 9223372036854775807) : ∃ kl, keyOf Try.prog 118 (.agg #[.string s, .int .i64 (n : Nat)]) = some kl := by
  obtain ⟨k, hk⟩ := tsz
  have hw := wfNat hn
  have h1 : Try.prog.keyType 118 = true := by kernel_rfl
  have hu : ∃ fs, Try.prog.underlying 118 = some (.struct fs) := by
    have := wideHead
    cases h : Try.prog.underlying 118 with
    | none => rw [h] at this; cases this
    | some d =>
      have k2 : (match Try.prog.underlying 118 with | some (.struct _) => true | _ => false) = true := by kernel_rfl
      rw [h] at k2
      cases d <;> simp at k2 ⊢
  have h2 : (Value.agg #[.string s, .int .i64 (n : Nat)]).formed Try.prog 118 = true := by
    obtain ⟨fs, hf⟩ := hu
    simp [Value.formed, hf, cHead]
  have h3 : Try.prog.keyLits (Try.prog.types.size + 1) 118 [.string s, .int .i64 (n : Nat)] = some [.string s.data.toList, .int .i64 (n : Nat)] := by
    rw [hk]
    simp [Program.keyLits, cHead, cInt, cStr, hw, hs]
  obtain ⟨fs, hf⟩ := hu
  unfold keyOf
  rw [hf]
  simp only [h1, h2, Bool.and_true, if_true]
  exact ⟨_, by rw [show (Value.agg #[.string s, .int .i64 (n : Nat)]).cells.toList = [.string s, .int .i64 (n : Nat)] from rfl, h3]; rfl⟩
theorem MapF.hdTight {w : World} {b n : Nat} {hd : ByteArray × Nat → Option Nat} (h : MapF Try.prog 118 3 w b n (hdF hd)) (N : Nat) (sn : Nat → Lab) (h1 : ∀ s n q, hd (s, n) = some q → q < N ∧ sn q = (s, n, [])) : MapF Try.prog 118 3 w b N (hdF hd) := by
  refine h.tight lawHead N (fun k z hz => ?_) (fun k k' z hz hz' => ?_)
  · obtain ⟨p, q, r, rfl, h2, rfl⟩ := hdF_some hz
    have := (h1 _ _ _ h2).1
    omega
  · obtain ⟨p, q, r, rfl, h2, rfl⟩ := hdF_some hz
    obtain ⟨p', q', r', rfl, h2', e⟩ := hdF_some hz'
    have : r = r' := by omega
    subst this
    have e1 := (h1 _ _ _ h2).2
    have e2 := (h1 _ _ _ h2').2
    have := e1.symm.trans e2
    simp only [Prod.mk.injEq, and_true] at this
    rw [this.1, this.2]
/-- The whole graph's data. -/
structure Gd where
  x : Lx
  f : Fx
  m : Nat
  y : Ly
  s : Sx
  t : Tx
  bH : Nat
  bR : Nat
  ag : Nat → Value
structure GW (w : World) (g : Nat) (d : Gd) : Prop where
  cw : CW w g d.x d.f d.m d.y d.s
  c2 : d.x.c2 = .map (some d.bH)
  c3 : d.x.c3 = .map (some d.bR)
  nodes : OL 2 84 w d.x.c0 d.t.nn (fun i => [.string (d.t.N i).1, d.ag i])
  args : ∀ i, i < d.t.nn → OL 1 3 w (d.ag i) (d.t.N i).2.length (natC (d.t.N i).2)
  heads : MapF Try.prog 118 3 w d.bH d.f.np (hdF d.t.hd)
  pairs : MapF Try.prog 51 3 w d.bR d.f.np (sgF d.t.pr)
  mne : d.bH ≠ d.bR ∧ d.bH ≠ d.x.bG ∧ d.bR ≠ d.x.bG
  ap1 : ∀ i, i < d.t.nn → ∀ b, (d.ag i).ownBlock = some b → d.x.vW.ownBlock ≠ some b
  ap2 : ∀ i, i < d.t.nn → ∀ j, j < d.s.ns → ∀ b, (d.ag i).ownBlock = some b → (d.y.au j).ownBlock ≠ some b
section
variable {w w' : World} {g : Nat} {d : Gd}
theorem GW.stay (h : GW w g d) (hb : ∀ b, b < w.heap.size → w'.heap[b]? = w.heap[b]?) : GW w' g d :=
  { h with
    cw := h.cw.stay hb
    nodes := h.nodes.stay fun b e => hb b (h.nodes.lt e)
    args := fun i hi => (h.args i hi).stay fun b e => hb b ((h.args i hi).lt e)
    heads := h.heads.stay (hb _ h.heads.lt)
    pairs := h.pairs.stay (hb _ h.pairs.lt) }
theorem GW.below (h : GW w g d) (hb : Below w.heap.size w w') : GW w' g d := h.stay fun b hlt => hb.block b hlt
end
theorem seg_cell {w : World} {ao : Option Addr} {xs : List Nat} (h : Seg .i64 w ao xs) {k : Nat} (hk : k < xs.length) : ∃ b off, ao = some ⟨b, off, none⟩ ∧ b < w.heap.size ∧ w.cell? ⟨b, off + k, none⟩ = some (.int .i64 (xs.getD k 0 : Nat)) := by
  obtain ⟨b, off, h1, h2⟩ := h.open k hk
  exact ⟨b, off, h1, World.block_lt_of_cell? w ⟨b, off + k, none⟩ (h2 k hk), h2 k hk⟩
/-- The node of that function and these arguments, if there is one. -/
def Found (t : Tx) (s : ByteArray) (l : List Nat) (r : Nat) (b : Bool) : Prop := (b = true ∧ r < t.nn ∧ t.N r = (s, l)) ∨ (b = false ∧ r = 0 ∧ ∀ a, a < t.nn → t.N a ≠ (s, l))
def FindEnd (t : Tx) (s : ByteArray) (l : List Nat) (e : Ending) : Prop := ∃ (r : Nat) (b : Bool), e = .returned (.tuple #[.int .i64 (r : Nat), .bool b]) ∧ Found t s l r b

set_option maxRecDepth 20000 in
set_option maxHeartbeats 8000000 in
theorem find_any (g : Nat) (d : Gd) (s : ByteArray) (l : List Nat) (ao : Option Addr) (cap : Nat) (w : World) (h : GW w g d) (ht : TOk d.f d.t none) (hs : s.size ≤ maxLen) (hl : l.length ≤ 10000) (hv : Seg .i64 w ao l) (hin : ∀ b ∈ l, b < d.t.nn) :
    Calls Try.prog 38 #[.pointer (some ⟨g, 2, none⟩), .string s, .slice ao l.length cap] w fun e w' => FindEnd d.t s l e ∧ Below w.heap.size w w' := by
  have HT : Hid (TOk d.f d.t none) := ht
  have HIN : Hid (∀ b ∈ l, b < d.t.nn) := hin
  obtain ⟨kl, hkl⟩ := keyHead (n := l.length) hs (by omega)
  have hlook : (Instr.lookup 64 (.map (some d.bH)) (.agg #[.string s, .int .i64 (l.length : Nat)]) true).run Try.prog w = .ok (.tuple #[.int .i64 ((hdF d.t.hd (.agg #[.string s, .int .i64 (l.length : Nat)])).getD 0), .bool (hdF d.t.hd (.agg #[.string s, .int .i64 (l.length : Nat)])).isSome]) w := h.heads.look lawHead uHead uInt (zInt _) hkl
  rw [hdF_at] at hlook
  obtain ⟨at0, hat0⟩ : ∃ at0, at0 = (d.t.hd (s, l.length)).getD 0 := ⟨_, rfl⟩
  obtain ⟨ok0, hok0⟩ : ∃ ok0, ok0 = (d.t.hd (s, l.length)).isSome := ⟨_, rfl⟩
  have e1 : (Option.map Int.ofNat (d.t.hd (s, l.length))).getD 0 = (at0 : Nat) := by rw [hat0]; cases d.t.hd (s, l.length) <;> rfl
  have e2 : (Option.map Int.ofNat (d.t.hd (s, l.length))).isSome = ok0 := by rw [hok0]; cases d.t.hd (s, l.length) <;> rfl
  rw [e1, e2] at hlook
  have HST : Hid ((ok0 = true ∧ at0 < d.f.np ∧ d.t.lab at0 = (s, l.length, l.take 0)) ∨ (ok0 = false ∧ ∀ p, p < d.f.np → d.t.lab p ≠ (s, l.length, l.take 0))) := by
    rw [List.take_zero]
    cases hh : d.t.hd (s, l.length) with
    | none => right; exact ⟨by rw [hok0, hh]; rfl, fun p hp e => by rw [ht.hd2 s l.length p hp e] at hh; cases hh⟩
    | some p => left; rw [hat0, hok0, hh]; exact ⟨rfl, ht.hd1 s l.length p hh⟩
  obtain ⟨-, -, c2, c3, c4, c5, -, -, -, -⟩ := h.cw.cells
  rw [h.c2] at c2
  rw [h.c3] at c3
  have HGW : Hid (GW w g d) := h
  have HSEG : Hid (Seg .i64 w ao l) := hv
  clear h ht hin hkl hat0 hok0 e1 e2 hs hv c4 c5
  go_enter Try.func38, Try.ntmps38
  go_wp2
  go_loopw [8, 9, 26] (fun v8 v9 v26 wr => ∃ (k at_ : Nat) (ok : Bool), v8 = .int .i64 (at_ : Nat) ∧ v9 = .bool ok ∧ v26 = .int .i64 (k : Nat) ∧ k ≤ l.length ∧ Hid ((ok = true ∧ at_ < d.f.np ∧ d.t.lab at_ = (s, l.length, l.take k)) ∨ (ok = false ∧ ∀ p, p < d.f.np → d.t.lab p ≠ (s, l.length, l.take k))) ∧ Below w.heap.size w wr) (fun _ _ v _ => l.length - (intOf v).toNat)
  case atStart => exact ⟨0, at0, ok0, rfl, rfl, rfl, Nat.zero_le _, HST.out, Below.refl _ _⟩
  case round =>
    clear HST hlook c2 c3
    obtain ⟨k, at_, ok, rfl, rfl, rfl, hk, HR, hbw⟩ := hrel
    by_cases hlt : k < l.length
    · have hltI : (k : Int) < (l.length : Int) := by omega
      obtain ⟨b, off, rfl, hbl, cu0⟩ := seg_cell HSEG.out hlt
      have cu := (hbw.cell (p := ⟨b, off + k, none⟩) hbl).trans cu0
      obtain ⟨a, ha⟩ : ∃ a, a = l.getD k 0 := ⟨_, rfl⟩
      rw [← ha] at cu
      have hget : l[k] = a := by rw [ha, List.getD_eq_getElem?_getD, List.getElem?_eq_getElem hlt]; rfl
      have HTK : Hid (l.take (k + 1) = l.take k ++ [a]) := by show _ = _; rw [List.take_succ_eq_append_getElem hlt, hget]
      have han : a < d.t.nn := HIN.out a (by rw [← hget]; exact List.getElem_mem hlt)
      clear hget ha cu0
      cases ok with
      | false =>
        have HN : Hid (∀ a, a < d.t.nn → d.t.N a ≠ (s, l)) := fun a ha e => by
          have h1 := HT.out.whole a ha
          rcases HR.out with ⟨h2, _⟩ | ⟨_, h2⟩
          · cases h2
          · rw [e] at h1
            obtain ⟨p, hp, hlp⟩ := HT.out.prefix (s := s) (n := l.length) (l.take k) (l.drop k) _ h1.1 (by rw [List.take_append_drop]; exact h1.2.1)
            exact h2 p hp hlp
        go_wp2
        refine bodyPost_ret (v := .tuple #[.int .i64 ((0 : Nat) : Int), .bool false]) (by simp [results, Try.results38, go_sem]) rfl ?_
        exact ⟨⟨0, false, rfl, Or.inr ⟨rfl, rfl, HN.out⟩⟩, hbw⟩
      | true =>
        obtain ⟨hat, hlab⟩ : at_ < d.f.np ∧ d.t.lab at_ = (s, l.length, l.take k) := by
          rcases HR.out with ⟨_, h2⟩ | ⟨h2, _⟩
          · exact h2
          · cases h2
        have hG := HGW.out.below hbw
        have hsm := hG.cw.small
        have hWn := HT.out.nw
        obtain ⟨gw, cw, hvw, hgw, w0⟩ := hG.cw.wholeAt (i := a) (by omega)
        have hWl := (HT.out.whole a han).1
        obtain ⟨kl2, hkl2⟩ := keyPair (a := (at_ : Nat)) (b := (d.f.W a : Nat)) (wfNat (by omega)) (wfNat (by omega))
        obtain ⟨-, -, -, c3, -, c5, -, -, -, -⟩ := hG.cw.cells
        rw [hG.c3] at c3
        rw [hvw] at c5
        have hlook2 : ∀ n, (Instr.lookup 65 (.map (some d.bR)) (.agg #[.int .i64 (at_ : Nat), .int .i64 (d.f.W a : Nat)]) true).run Try.prog (wr.drewN n) = .ok (.tuple #[.int .i64 ((sgF d.t.pr (.agg #[.int .i64 (at_ : Nat), .int .i64 (d.f.W a : Nat)])).getD 0), .bool (sgF d.t.pr (.agg #[.int .i64 (at_ : Nat), .int .i64 (d.f.W a : Nat)])).isSome]) (wr.drewN n) := fun n => (hG.pairs.stay (w' := wr.drewN n) rfl).look lawPair uSig uInt (zInt _) hkl2
        simp only [sgF_at] at hlook2
        obtain ⟨at1, hat1⟩ : ∃ at1, at1 = (d.t.pr (at_, d.f.W a)).getD 0 := ⟨_, rfl⟩
        obtain ⟨ok1, hok1⟩ : ∃ ok1, ok1 = (d.t.pr (at_, d.f.W a)).isSome := ⟨_, rfl⟩
        have e1 : (Option.map Int.ofNat (d.t.pr (at_, d.f.W a))).getD 0 = (at1 : Nat) := by rw [hat1]; cases d.t.pr (at_, d.f.W a) <;> rfl
        have e2 : (Option.map Int.ofNat (d.t.pr (at_, d.f.W a))).isSome = ok1 := by rw [hok1]; cases d.t.pr (at_, d.f.W a) <;> rfl
        rw [e1, e2] at hlook2
        have HR1 : Hid ((ok1 = true ∧ at1 < d.f.np ∧ d.t.lab at1 = (s, l.length, l.take (k + 1))) ∨ (ok1 = false ∧ ∀ p, p < d.f.np → d.t.lab p ≠ (s, l.length, l.take (k + 1)))) := by
          rw [HTK.out]
          cases hh : d.t.pr (at_, d.f.W a) with
          | none => right; exact ⟨by rw [hok1, hh]; rfl, fun p hp e => by rw [HT.out.pr2 p s l.length (l.take k) a at_ hp e hat hlab] at hh; cases hh⟩
          | some p =>
            left; rw [hat1, hok1, hh]
            obtain ⟨h1, h2, s', n', l', a', h3, h4, h5, h6⟩ := HT.out.pr1 at_ (d.f.W a) p hh
            rw [hlab] at h3
            cases h3
            obtain rfl := HT.out.Winj h4 han h5
            exact ⟨rfl, h1, h6⟩
        clear hkl2 hat1 hok1 e1 e2 hlab hvw
        have hanw : (a : Int) < (d.f.nw : Int) := by omega
        go_wp2
        go_quiet (fail)
        go_wp2
        go_roundw
        case rel => exact ⟨k + 1, at1, ok1, rfl, rfl, by go_num, by omega, HR1.out, ⟨hbw.os, hbw.tape, hbw.output, hbw.size, hbw.block⟩⟩
        case measure => simp [intOf]; omega
    · have hk2 : k = l.length := by omega
      have hltI : ¬ ((k : Int) < (l.length : Int)) := by omega
      subst hk2
      cases ok with
      | false =>
        have HN : Hid (∀ a, a < d.t.nn → d.t.N a ≠ (s, l)) := fun a ha e => by
          have h1 := HT.out.whole a ha
          rcases HR.out with ⟨h2, _⟩ | ⟨_, h2⟩
          · cases h2
          · rw [e] at h1
            rw [List.take_length] at h2
            exact h2 _ h1.1 h1.2.1
        go_wp2
        refine bodyPost_ret (v := .tuple #[.int .i64 ((0 : Nat) : Int), .bool false]) (by simp [results, Try.results38, go_sem]) rfl ?_
        exact ⟨⟨0, false, rfl, Or.inr ⟨rfl, rfl, HN.out⟩⟩, hbw⟩
      | true =>
        obtain ⟨hat, hlab⟩ : at_ < d.f.np ∧ d.t.lab at_ = (s, l.length, l) := by
          rcases HR.out with ⟨_, h2⟩ | ⟨h2, _⟩
          · rw [List.take_length] at h2; exact h2
          · cases h2
        obtain ⟨a, ha, hw, hN, hnd⟩ := HT.out.same hat hlab
        have HND : Hid (a < d.t.nn ∧ d.t.N a = (s, l)) := ⟨ha, hN⟩
        have hG := HGW.out.below hbw
        obtain ⟨gp, cp, hvp, hgp, p0, p1, p2⟩ := hG.cw.part hat
        obtain ⟨-, -, -, -, c4, -, -, -, -, -⟩ := hG.cw.cells
        rw [hvp] at c4
        rw [hnd] at p2
        have hatI : (at_ : Int) < (d.f.np : Int) := by omega
        clear hlab ha hw hN hnd hvp
        go_wp2
        refine bodyPost_ret (v := .tuple #[.int .i64 (a : Nat), .bool true]) (by simp [results, Try.results38, go_sem]) rfl ?_
        exact ⟨⟨a, true, rfl, Or.inl ⟨rfl, HND.out.1, HND.out.2⟩⟩, hbw⟩
end Euf
end Go.Proofs.Ytmnpefiaelpkfac
