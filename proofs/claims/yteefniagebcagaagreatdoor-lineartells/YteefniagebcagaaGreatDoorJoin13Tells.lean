/- Joined: VarsD, QV, RegF, LinW: words and contracts; no statement of the seat is proved here. -/
import Derived.Test.YteefniagebcagaaGreatDoorJoin12Tells
import Derived.Test.YteefniagebcagaaGreatDoorJoin2Tells
import Derived.Test.YteefniagebcagaaGreatDoorJoin10Tells
import Derived.Test.YteefniagebcagaaGreatDoorJoin1Tells
/- Sign, Abs, Bits, Div and Gcd by the numbers that variables hold, and what is true of quotients, rests and divisors; they prove no statement of the seat. -/
namespace Go.Proofs.YteefniagebcagaaGreatDoor
open Go.RowKit

end Go.Proofs.YteefniagebcagaaGreatDoor
/- Words for rationals in the machine: what a struct of two numbers holds, and what stores leave; no statement of the seat is proved here. -/
namespace Go.Proofs.YteefniagebcagaaGreatDoor
open Go.RowKit

section
variable {w w' : World} {x : Bool} {a : Option Addr} {n c : Nat} {y : Bool} {e : Option Addr} {m f : Nat} {q : Rat} {v : Value}
end
end Go.Proofs.YteefniagebcagaaGreatDoor
/- What slots and variables hold in a region that draws its order; no statement of the seat is proved here. -/
namespace Go.Proofs.YteefniagebcagaaGreatDoor
open Go Go.RowKit

def IS (v : Value) : Value → World → Prop := fun u _ => u = v
def INT (z : Int) : Value → World → Prop := fun u w => AInt w u z
def RNM (z : Int) (N : Nat) : Value → World → Prop := fun u w => RNum w u z N
def T2 (p q : Value → World → Prop) : Value → World → Prop := fun u w => ∃ a b, u = .tuple #[a, b] ∧ p a w ∧ q b w
/-- What stays while machine numbers stay. -/
def Mono (p : Value → World → Prop) : Prop := ∀ u w w', KeepI w w' → p u w → p u w'
theorem mv {p : Value → World → Prop} (hp : Mono p) {w w' : World} (hk : KeepI w w') {b : Prop} {u : Value} (h : b → p u w) : b → p u w' := fun k => hp _ _ _ hk (h k)
/-- An older variable, by its value. -/
def BlkV (t : TypeId) (w : World) (b : Nat) (v : Value) : Prop := ∃ cs, v = .agg cs ∧ Blk t w b cs
theorem BlkV.stay {t : TypeId} {w w' : World} {b : Nat} {v : Value} (h : BlkV t w b v) (hb : Below w.heap.size w w') : BlkV t w' b v := by
  obtain ⟨cs, h1, h2⟩ := h
  exact ⟨cs, h1, h2.stay hb⟩
theorem flip_v {P : Value → Prop} {b : Bool} (hb : b = false) {u u' z : Value} (h : P (bif b then u else z)) : P (bif b then u' else z) := by rw [hb] at h ⊢; exact h
end Go.Proofs.YteefniagebcagaaGreatDoor
/- Words for structs of any number of cells, lists of structs that a call makes, and terms in the machine; no statement of the seat is proved here. -/
namespace Go.Proofs.YteefniagebcagaaGreatDoor
open Go.RowKit
set_option linter.unusedVariables false

/-- Cells stored one behind the other. -/
def stores (w : World) (b i : Nat) : List Value → World
  | [] => w
  | v :: r => stores (w.setCell ⟨b, i, none⟩ v) b (i + 1) r
/-- The cell is no limb. -/
def NoU (u : Value) : Prop := ∀ x, u ≠ .int .u32 x
theorem noU_bool (x : Bool) : NoU (.bool x) := fun _ h => by cases h
theorem noU_slice (a : Option Addr) (n c : Nat) : NoU (.slice a n c) := fun _ h => by cases h
theorem noU_i64 (x : Int) : NoU (.int .i64 x) := fun _ h => by cases h
theorem noU_str (s : ByteArray) : NoU (.string s) := fun _ h => by cases h

/-- Limbs stay, and all rows of ints. -/
structure KeepN (w w' : World) : Prop where
  u : ∀ p x, w.cell? p = some (.int .u32 x) → w'.cell? p = some (.int .u32 x)
  i : ∀ (b : Nat) (cs : Array Value), w.heap[b]? = some (.cells cs 3 (0, 0)) → w'.heap[b]? = some (.cells cs 3 (0, 0))
theorem KeepN.refl (w : World) : KeepN w w := ⟨fun _ _ h => h, fun _ _ h => h⟩
theorem KeepN.trans {a b c : World} (h : KeepN a b) (k : KeepN b c) : KeepN a c := ⟨fun p x hp => k.u p x (h.u p x hp), fun g cs hg => k.i g cs (h.i g cs hg)⟩
theorem KeepN.below {w w' : World} (h : Below w.heap.size w w') : KeepN w w' :=
  ⟨fun p _ hp => (h.cell (p := p) (World.block_lt_of_cell? w p hp)).trans hp, fun b _ hb => (h.block b (Array.getElem?_eq_some_iff.1 hb).1).trans hb⟩
theorem Seg.keepN {w w' : World} {ao : Option Addr} {xs : List Nat} (h : Seg .u32 w ao xs) (hk : KeepN w w') : Seg .u32 w' ao xs := by
  rcases h with h | ⟨b, off, rfl, hc⟩
  · exact Or.inl h
  · exact Or.inr ⟨b, off, rfl, fun i hi => hk.u _ _ (hc i hi)⟩
theorem AInt.keepN {w w' : World} {v : Value} {z : Int} (h : AInt w v z) (hk : KeepN w w') : AInt w' v z := by
  obtain ⟨neg, xs, ⟨ao, cap, h1, h2, h3, h4, h5⟩, h6⟩ := h
  exact ⟨neg, xs, ⟨ao, cap, h1, h2, h3, h4.keepN hk, h5⟩, h6⟩
theorem RNum.keepN {w w' : World} {v : Value} {z : Int} {L : Nat} (h : RNum w v z L) (hk : KeepN w w') : RNum w' v z L := by
  obtain ⟨neg, xs, ⟨ao, cap, h1, h2, h3, h4, h5, h7, h8, h9, h10⟩, h6⟩ := h
  have hi : IntB w' ao := fun a ha => by obtain ⟨cs, hc⟩ := h10 a ha; exact ⟨cs, hk.i _ _ hc⟩
  refine ⟨neg, xs, ⟨ao, cap, h1, h2, h3, h4, ?_, h7, h8, h9, hi⟩, h6⟩
  rcases h5 with h | ⟨b, off, rfl, hc⟩
  · exact Or.inl h
  · refine Or.inr ⟨b, off, rfl, fun i hi' => ?_⟩
    obtain ⟨cs, hc'⟩ := h10 _ rfl
    rw [World.cell?_of_block (w := w) (a := ⟨b, off + i, none⟩) ((hk.i _ _ hc').trans hc'.symm)]
    exact hc i hi'
/-- Limbs, rows of ints and rows of parts stay. -/
structure KeepP (w w' : World) : Prop where
  n : KeepN w w'
  p : ∀ (b : Nat) (cs : Array Value), w.heap[b]? = some (.cells cs 116 (0, 0)) → w'.heap[b]? = some (.cells cs 116 (0, 0))
theorem KeepP.trans {a b c : World} (h : KeepP a b) (k : KeepP b c) : KeepP a c := ⟨h.n.trans k.n, fun g cs hg => k.p g cs (h.p g cs hg)⟩
theorem KeepP.below {w w' : World} (h : Below w.heap.size w w') : KeepP w w' := ⟨KeepN.below h, fun b _ hb => (h.block b (Array.getElem?_eq_some_iff.1 hb).1).trans hb⟩
theorem AInt.keepP {w w' : World} {v : Value} {z : Int} (h : AInt w v z) (hk : KeepP w w') : AInt w' v z := h.keepN hk.n

theorem keepN_set {t : TypeId} {w : World} {b : Nat} {cs : Array Value} (h : Blk t w b cs) (ht : t ≠ 3) (hN : ∀ u ∈ cs.toList, NoU u) (i : Nat) (v : Value) : KeepN w (w.setCell ⟨b, i, none⟩ v) := by
  refine ⟨?_, fun g cs' hg => ?_⟩
  · intro p x hp
    by_cases hb : p.block = b
    · exfalso
      obtain ⟨pb, po, pm⟩ := p
      simp only at hb
      subst hb
      have h1 : pm = none ∧ cs[po]? = some (Value.int .u32 x) := by simpa [World.cell?, show w.heap[pb]? = _ from h] using hp
      exact hN _ (by rw [Array.mem_toList_iff]; exact Array.mem_of_getElem? h1.2) x rfl
    · rw [World.cell?_of_block (w := w) (heap_setCell_other w ⟨b, i, none⟩ p.block v hb)]
      exact hp
  · by_cases hb : g = b
    · subst hb
      have h' : w.heap[g]? = some (.cells cs t (0, 0)) := h
      rw [h'] at hg
      injection hg with hg
      injection hg with _ h2
      exact absurd h2 ht
    · exact (heap_setCell_other w ⟨b, i, none⟩ g v hb).trans hg
theorem mem_setIfInBounds {cs : Array Value} {i : Nat} {v u : Value} (h : u ∈ (cs.setIfInBounds i v).toList) : u ∈ cs.toList ∨ u = v := by
  rw [Array.mem_toList_iff] at h ⊢
  obtain ⟨j, hj⟩ := Array.mem_iff_getElem?.1 h
  rw [Array.getElem?_setIfInBounds] at hj
  split at hj
  · split at hj
    · right; simpa using hj.symm
    · cases hj
  · left; exact Array.mem_of_getElem? hj
theorem keepN_stores {t : TypeId} {b : Nat} (ht : t ≠ 3) : ∀ (vs : List Value) {w : World} {cs : Array Value} (i : Nat), Blk t w b cs → (∀ u ∈ cs.toList, NoU u) → (∀ u ∈ vs, NoU u) → KeepN w (stores w b i vs)
  | [], w, _, _, _, _, _ => KeepN.refl w
  | v :: r, w, cs, i, h, hN, hv => by
    refine (keepN_set h ht hN i v).trans (keepN_stores ht r (i + 1) (h.set i v) ?_ (fun u hu => hv u (List.mem_cons_of_mem _ hu)))
    intro u hu
    rcases mem_setIfInBounds hu with k | k
    · exact hN u k
    · rw [k]; exact hv v (List.mem_cons_self ..)
theorem stores_other (b g : Nat) (hne : g ≠ b) : ∀ (vs : List Value) (w : World) (i : Nat), (stores w b i vs).heap[g]? = w.heap[g]?
  | [], _, _ => rfl
  | v :: r, w, i => by rw [stores, stores_other b g hne r, heap_setCell_other w ⟨b, i, none⟩ g v hne]
theorem keepP_stores {t : TypeId} {b : Nat} (ht : t ≠ 3) (hp : t ≠ 116) (vs : List Value) {w : World} {cs : Array Value} (i : Nat) (h : Blk t w b cs) (hN : ∀ u ∈ cs.toList, NoU u) (hv : ∀ u ∈ vs, NoU u) : KeepP w (stores w b i vs) := by
  refine ⟨keepN_stores ht vs i h hN hv, fun g cs' hg => ?_⟩
  by_cases hb : g = b
  · subst hb
    have h' : w.heap[g]? = some (.cells cs t (0, 0)) := h
    rw [h'] at hg
    injection hg with hg
    injection hg with _ h2
    exact absurd h2 hp
  · exact (stores_other b g hb vs w i).trans hg
theorem Blk.otherS {t : TypeId} {w : World} {b d : Nat} {cs : Array Value} (h : Blk t w b cs) (hne : d ≠ b) (i : Nat) (vs : List Value) : Blk t (stores w d i vs) b cs := (stores_other d b (Ne.symm hne) vs w i).trans h
theorem below_stores {B b : Nat} (hb : B ≤ b) : ∀ (vs : List Value) {w w1 : World} (i : Nat), Below B w w1 → Below B w (stores w1 b i vs)
  | [], _, _, _, h => h
  | v :: r, _, _, i, h => below_stores hb r (i + 1) (h.setCell (p := ⟨b, i, none⟩) hb v)
theorem Blk.overS {t : TypeId} {b : Nat} : ∀ (vs : List Value) {w : World} {cs : Array Value} (i : Nat), Blk t w b cs → cs.size = i + vs.length → Blk t (stores w b i vs) b ((cs.toList.take i ++ vs).toArray)
  | [], w, cs, i, h, hl => by
    have e : (cs.toList.take i ++ []).toArray = cs := by
      rw [List.append_nil, List.take_of_length_le (by rw [Array.length_toList, hl]; simp), Array.toArray_toList]
    rw [e]; exact h
  | v :: r, w, cs, i, h, hl => by
    simp only [List.length_cons] at hl
    have h2 := Blk.overS r (i + 1) (h.set i v) (by rw [Array.size_setIfInBounds]; omega)
    have e : ((cs.setIfInBounds i v).toList.take (i + 1) ++ r).toArray = (cs.toList.take i ++ v :: r).toArray := by
      congr 1
      rw [Array.toList_setIfInBounds]
      have hi : i < cs.toList.length := by rw [Array.length_toList]; omega
      rw [List.take_succ_eq_append_getElem (by rw [List.length_set]; exact hi), List.getElem_set_self, List.take_set_of_le (Nat.le_refl _), List.append_assoc]
      rfl
    rw [e] at h2
    exact h2
theorem Blk.three {t : TypeId} {w : World} {b : Nat} {p q r : Value} (h : Blk t w b #[p, q, r]) :
    w.cell? ⟨b, 0, none⟩ = some p ∧ w.cell? ⟨b, 1, none⟩ = some q ∧ w.cell? ⟨b, 2, none⟩ = some r := ⟨h.cell 0, h.cell 1, h.cell 2⟩
theorem Blk.frozen3 {t : TypeId} {w : World} {b : Nat} {p q r : Value} (h : Blk t w b #[p, q, r]) :
    w.frozen? ⟨b, 0, none⟩ = false ∧ w.frozen? ⟨b, 1, none⟩ = false ∧ w.frozen? ⟨b, 2, none⟩ = false := ⟨h.frozen 0, h.frozen 1, h.frozen 2⟩
theorem Blk.five {t : TypeId} {w : World} {b : Nat} {p q r s u : Value} (h : Blk t w b #[p, q, r, s, u]) :
    w.cell? ⟨b, 0, none⟩ = some p ∧ w.cell? ⟨b, 1, none⟩ = some q ∧ w.cell? ⟨b, 2, none⟩ = some r ∧ w.cell? ⟨b, 3, none⟩ = some s ∧ w.cell? ⟨b, 4, none⟩ = some u := ⟨h.cell 0, h.cell 1, h.cell 2, h.cell 3, h.cell 4⟩
theorem Blk.frozen5 {t : TypeId} {w : World} {b : Nat} {p q r s u : Value} (h : Blk t w b #[p, q, r, s, u]) :
    w.frozen? ⟨b, 0, none⟩ = false ∧ w.frozen? ⟨b, 1, none⟩ = false ∧ w.frozen? ⟨b, 2, none⟩ = false ∧ w.frozen? ⟨b, 3, none⟩ = false ∧ w.frozen? ⟨b, 4, none⟩ = false := ⟨h.frozen 0, h.frozen 1, h.frozen 2, h.frozen 3, h.frozen 4⟩

/-- The cells from 'ao' on are parts: variables and coefficients. -/
def PArr (w : World) (ao : Option Addr) (ps : List (Nat × Int)) : Prop :=
  ps = [] ∨ ∃ (g o : Nat) (cur : Array Value), ao = some ⟨g, o, none⟩ ∧ w.heap[g]? = some (.cells cur 116 (0, 0)) ∧ ∀ i, i < ps.length → ∃ s a n c,
    cur[o + i * 3]? = some (.int .i64 ((ps.getD i (0, 0)).1 : Nat)) ∧ cur[o + i * 3 + 1]? = some (.bool s) ∧ cur[o + i * 3 + 2]? = some (.slice a n c) ∧ AInt w (.agg #[.bool s, .slice a n c]) (ps.getD i (0, 0)).2
section
variable {w w' : World} {ao : Option Addr} {ps : List (Nat × Int)}
theorem PArr.nil (w : World) (ao : Option Addr) : PArr w ao [] := Or.inl rfl
theorem PArr.keepP (h : PArr w ao ps) (hk : KeepP w w') : PArr w' ao ps := by
  rcases h with h | ⟨g, o, cur, rfl, hg, hc⟩
  · exact Or.inl h
  · refine Or.inr ⟨g, o, cur, rfl, hk.p _ _ hg, fun i hi => ?_⟩
    obtain ⟨s, a, n, c, h1, h2, h3, h4⟩ := hc i hi
    exact ⟨s, a, n, c, h1, h2, h3, h4.keepP hk⟩
theorem PArr.below (h : PArr w ao ps) (hb : Below w.heap.size w w') : PArr w' ao ps := h.keepP (KeepP.below hb)
/-- One of them: its place, its cells. -/
theorem PArr.at (h : PArr w ao ps) (i : Nat) (hi : i < ps.length) : ∃ g o s a n c, ao = some ⟨g, o, none⟩ ∧ w.cell? ⟨g, o + i * 3, none⟩ = some (.int .i64 ((ps.getD i (0, 0)).1 : Nat)) ∧ w.cell? ⟨g, o + i * 3 + 1, none⟩ = some (.bool s) ∧
    w.cell? ⟨g, o + i * 3 + 2, none⟩ = some (.slice a n c) ∧ AInt w (.agg #[.bool s, .slice a n c]) (ps.getD i (0, 0)).2 := by
  rcases h with h | ⟨g, o, cur, rfl, hg, hc⟩
  · subst h; simp at hi
  · obtain ⟨s, a, n, c, h1, h2, h3, h4⟩ := hc i hi
    exact ⟨g, o, s, a, n, c, rfl, (cell_of_row w g _ cur _ (0, 0) hg).trans h1, (cell_of_row w g _ cur _ (0, 0) hg).trans h2, (cell_of_row w g _ cur _ (0, 0) hg).trans h3, h4⟩
theorem getD_drop (ps : List (Nat × Int)) (k i : Nat) : (ps.drop k).getD i (0, 0) = ps.getD (k + i) (0, 0) := by
  rw [List.getD_eq_getElem?_getD, List.getElem?_drop, ← List.getD_eq_getElem?_getD]
theorem PArr.drop {g o : Nat} (h : PArr w (some ⟨g, o, none⟩) ps) (k : Nat) : PArr w (some ⟨g, o + k * 3, none⟩) (ps.drop k) := by
  rcases h with h | ⟨g', o', cur, he, hg, hc⟩
  · subst h; exact Or.inl (by simp)
  · cases he
    refine Or.inr ⟨g, o + k * 3, cur, rfl, hg, fun i hi => ?_⟩
    rw [List.length_drop] at hi
    obtain ⟨s, a, n, c, h1, h2, h3, h4⟩ := hc (k + i) (by omega)
    have e : o + (k + i) * 3 = o + k * 3 + i * 3 := by omega
    rw [e] at h1 h2 h3
    rw [getD_drop]
    exact ⟨s, a, n, c, h1, h2, h3, h4⟩
end

/-- Variables that rise and lie below 4096 are at most so many. -/
theorem rise_len : ∀ (l : List (Nat × Int)) (k : Nat), Rise l → (∀ p ∈ l, k ≤ p.1 ∧ p.1 < 4096) → l.length + k ≤ 4096 ∨ l = []
  | [], _, _, _ => Or.inr rfl
  | p :: r, k, h, hb => by
    have hp := hb p (List.mem_cons_self ..)
    left
    rcases rise_len r (p.1 + 1) h.tail (fun q hq => ⟨h.head q hq, (hb q (List.mem_cons_of_mem _ hq)).2⟩) with e | e
    · simp only [List.length_cons]; omega
    · subst e; simp; omega
theorem Fine.len {l : List (Nat × Int)} (h : Fine l) : l.length ≤ 4096 := by
  rcases rise_len l 0 h.1 (fun p hp => ⟨Nat.zero_le _, (h.2 p hp).2.2⟩) with e | e
  · omega
  · subst e; simp

/-- The parts of a term's struct. -/
structure TP (w : World) (ao : Option Addr) (n cap : Nat) (x : Bool) (a : Option Addr) (m c : Nat) (ps : List (Nat × Int)) (r : Int) : Prop where
  len : ps.length = n
  cap1 : n ≤ cap
  cap2 : cap ≤ maxLen
  none : ao = none → cap = 0
  arr : PArr w ao ps
  rest : AInt w (.agg #[.bool x, .slice a m c]) r
  fine : Fine ps
/-- The value v is the term. -/
def TermR (w : World) (v : Value) (ps : List (Nat × Int)) (r : Int) : Prop := ∃ ao n cap x a m c, v = .agg #[.slice ao n cap, .bool x, .slice a m c] ∧ TP w ao n cap x a m c ps r
section
variable {w w' : World} {ao : Option Addr} {n cap : Nat} {x : Bool} {a : Option Addr} {m c : Nat} {ps : List (Nat × Int)} {r : Int} {v : Value}
theorem TP.keepP (h : TP w ao n cap x a m c ps r) (hk : KeepP w w') : TP w' ao n cap x a m c ps r := ⟨h.len, h.cap1, h.cap2, h.none, h.arr.keepP hk, h.rest.keepP hk, h.fine⟩
theorem TP.below (h : TP w ao n cap x a m c ps r) (hb : Below w.heap.size w w') : TP w' ao n cap x a m c ps r := h.keepP (KeepP.below hb)
theorem TP.val (h : TP w ao n cap x a m c ps r) : TermR w (.agg #[.slice ao n cap, .bool x, .slice a m c]) ps r := ⟨ao, n, cap, x, a, m, c, rfl, h⟩
theorem TermR.keepP (h : TermR w v ps r) (hk : KeepP w w') : TermR w' v ps r := by
  obtain ⟨ao, n, cap, x, a, m, c, rfl, h⟩ := h
  exact (h.keepP hk).val
theorem TermR.below (h : TermR w v ps r) (hb : Below w.heap.size w w') : TermR w' v ps r := h.keepP (KeepP.below hb)
theorem TP.n_le (h : TP w ao n cap x a m c ps r) : n ≤ 4096 := by rw [← h.len]; exact h.fine.len
theorem TP.zero (w : World) : TP w Option.none 0 0 false Option.none 0 0 [] 0 := ⟨rfl, Nat.le_refl _, Nat.zero_le _, fun _ => rfl, PArr.nil _ _, AInt.zero w, Fine.nil⟩
end
theorem nuI (x : Bool) (a : Option Addr) (m c : Nat) : ∀ u ∈ [Value.bool x, .slice a m c], NoU u := by
  intro u hu; simp at hu; rcases hu with rfl | rfl
  · exact noU_bool _
  · exact noU_slice _ _ _
theorem nuT (p : Option Addr) (n k : Nat) (x : Bool) (a : Option Addr) (m c : Nat) : ∀ u ∈ [Value.slice p n k, .bool x, .slice a m c], NoU u := by
  intro u hu; simp at hu; rcases hu with rfl | rfl | rfl
  · exact noU_slice _ _ _
  · exact noU_bool _
  · exact noU_slice _ _ _
theorem nuP (v : Int) (x : Bool) (a : Option Addr) (m c : Nat) : ∀ u ∈ [Value.int .i64 v, .bool x, .slice a m c], NoU u := by
  intro u hu; simp at hu; rcases hu with rfl | rfl | rfl
  · exact noU_i64 _
  · exact noU_bool _
  · exact noU_slice _ _ _
theorem nuR (p : Option Addr) (n k : Nat) (x : Bool) (a : Option Addr) (m c : Nat) (y : Bool) (d : Option Addr) (l f : Nat) : ∀ u ∈ [Value.slice p n k, .bool x, .slice a m c, .bool y, .slice d l f], NoU u := by
  intro u hu; simp at hu; rcases hu with rfl | rfl | rfl | rfl | rfl
  · exact noU_slice _ _ _
  · exact noU_bool _
  · exact noU_slice _ _ _
  · exact noU_bool _
  · exact noU_slice _ _ _
theorem nuM (v : Int) (s : ByteArray) : ∀ u ∈ [Value.int .i64 v, .string s], NoU u := by
  intro u hu; simp at hu; rcases hu with rfl | rfl
  · exact noU_i64 _
  · exact noU_str _
theorem nuS (s : ByteArray) : ∀ u ∈ [Value.string s], NoU u := by
  intro u hu; simp at hu; subst hu; exact noU_str _
/-- A number's variable is written. -/
theorem resI {t : TypeId} {w w1 : World} {b B : Nat} {x : Bool} {a : Option Addr} {m c : Nat} (ht : t ≠ 3) (hp : t ≠ 116) (o : Blk t w1 b #[.bool x, .slice a m c]) (hbw : Below B w w1) (hle : B ≤ b) (x' : Bool) (a' : Option Addr) (m' c' : Nat) :
    KeepP w1 ((w1.setCell ⟨b, 0, none⟩ (.bool x')).setCell ⟨b, 1, none⟩ (.slice a' m' c')) ∧ Below B w ((w1.setCell ⟨b, 0, none⟩ (.bool x')).setCell ⟨b, 1, none⟩ (.slice a' m' c')) ∧ Blk t ((w1.setCell ⟨b, 0, none⟩ (.bool x')).setCell ⟨b, 1, none⟩ (.slice a' m' c')) b #[.bool x', .slice a' m' c'] :=
  ⟨keepP_stores ht hp [.bool x', .slice a' m' c'] 0 o (nuI _ _ _ _) (nuI _ _ _ _), below_stores hle [.bool x', .slice a' m' c'] 0 hbw, Blk.overS [.bool x', .slice a' m' c'] 0 o rfl⟩
/-- A term's variable is written. -/
theorem resT {t : TypeId} {w w1 : World} {b B : Nat} {p : Option Addr} {n k : Nat} {x : Bool} {a : Option Addr} {m c : Nat} (ht : t ≠ 3) (hp : t ≠ 116) (o : Blk t w1 b #[.slice p n k, .bool x, .slice a m c]) (hbw : Below B w w1) (hle : B ≤ b) (p' : Option Addr) (n' k' : Nat) (x' : Bool) (a' : Option Addr) (m' c' : Nat) :
    KeepP w1 (((w1.setCell ⟨b, 0, none⟩ (.slice p' n' k')).setCell ⟨b, 1, none⟩ (.bool x')).setCell ⟨b, 2, none⟩ (.slice a' m' c')) ∧ Below B w (((w1.setCell ⟨b, 0, none⟩ (.slice p' n' k')).setCell ⟨b, 1, none⟩ (.bool x')).setCell ⟨b, 2, none⟩ (.slice a' m' c')) ∧ Blk t (((w1.setCell ⟨b, 0, none⟩ (.slice p' n' k')).setCell ⟨b, 1, none⟩ (.bool x')).setCell ⟨b, 2, none⟩ (.slice a' m' c')) b #[.slice p' n' k', .bool x', .slice a' m' c'] :=
  ⟨keepP_stores ht hp [.slice p' n' k', .bool x', .slice a' m' c'] 0 o (nuT _ _ _ _ _ _ _) (nuT _ _ _ _ _ _ _), below_stores hle [.slice p' n' k', .bool x', .slice a' m' c'] 0 hbw, Blk.overS [.slice p' n' k', .bool x', .slice a' m' c'] 0 o rfl⟩
/-- A row's variable is written. -/
theorem resR {t : TypeId} {w w1 : World} {b B : Nat} {p : Option Addr} {n k : Nat} {x : Bool} {a : Option Addr} {m c : Nat} {y : Bool} {d : Option Addr} {l f : Nat} (ht : t ≠ 3) (hp : t ≠ 116) (o : Blk t w1 b #[.slice p n k, .bool x, .slice a m c, .bool y, .slice d l f]) (hbw : Below B w w1) (hle : B ≤ b) (p' : Option Addr) (n' k' : Nat) (x' : Bool) (a' : Option Addr) (m' c' : Nat) (y' : Bool) (d' : Option Addr) (l' f' : Nat) :
    KeepP w1 (((((w1.setCell ⟨b, 0, none⟩ (.slice p' n' k')).setCell ⟨b, 1, none⟩ (.bool x')).setCell ⟨b, 2, none⟩ (.slice a' m' c')).setCell ⟨b, 3, none⟩ (.bool y')).setCell ⟨b, 4, none⟩ (.slice d' l' f')) ∧ Below B w (((((w1.setCell ⟨b, 0, none⟩ (.slice p' n' k')).setCell ⟨b, 1, none⟩ (.bool x')).setCell ⟨b, 2, none⟩ (.slice a' m' c')).setCell ⟨b, 3, none⟩ (.bool y')).setCell ⟨b, 4, none⟩ (.slice d' l' f')) ∧ Blk t (((((w1.setCell ⟨b, 0, none⟩ (.slice p' n' k')).setCell ⟨b, 1, none⟩ (.bool x')).setCell ⟨b, 2, none⟩ (.slice a' m' c')).setCell ⟨b, 3, none⟩ (.bool y')).setCell ⟨b, 4, none⟩ (.slice d' l' f')) b #[.slice p' n' k', .bool x', .slice a' m' c', .bool y', .slice d' l' f'] :=
  ⟨keepP_stores ht hp [.slice p' n' k', .bool x', .slice a' m' c', .bool y', .slice d' l' f'] 0 o (nuR _ _ _ _ _ _ _ _ _ _ _) (nuR _ _ _ _ _ _ _ _ _ _ _), below_stores hle [.slice p' n' k', .bool x', .slice a' m' c', .bool y', .slice d' l' f'] 0 hbw, Blk.overS [.slice p' n' k', .bool x', .slice a' m' c', .bool y', .slice d' l' f'] 0 o rfl⟩
end Go.Proofs.YteefniagebcagaaGreatDoor
