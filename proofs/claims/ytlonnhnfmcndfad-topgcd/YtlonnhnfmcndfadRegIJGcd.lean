/- What slots and variables hold in a region that draws its order: numbers; no statement of the seat is proved here. -/
import Derived.Test.YtlonnhnfmcndfadJoin2Gcd
import Derived.Test.YtlonnhnfmcndfadKeepAJGcd
namespace Go.Proofs.Ytlonnhnfmcndfad
open Go Go.RowKit

/-- All cells that hold machine numbers hold them still. -/
def KeepI (w w' : World) : Prop := (∀ p k x, w.cell? p = some (.int k x) → w'.cell? p = some (.int k x)) ∧ ∀ (b : Nat) (cs : Array Value) (t : TypeId), w.heap[b]? = some (.cells cs t (0, 0)) → ∃ cs', w'.heap[b]? = some (.cells cs' t (0, 0))
theorem KeepI.trans {a b c : World} (h : KeepI a b) (k : KeepI b c) : KeepI a c := ⟨fun p q x hp => k.1 p q x (h.1 p q x hp), fun g cs t hg => by obtain ⟨cs', hc⟩ := h.2 g cs t hg; exact k.2 g cs' t hc⟩
theorem KeepI.below {w w' : World} (h : Below w.heap.size w w') : KeepI w w' := ⟨fun p _ _ hp => (h.cell (p := p) (World.block_lt_of_cell? w p hp)).trans hp, fun b cs _ hb => ⟨cs, (h.block b (Array.getElem?_eq_some_iff.1 hb).1).trans hb⟩⟩
theorem Seg.keepI {k : IntKind} {w w' : World} {ao : Option Addr} {xs : List Nat} (h : Seg k w ao xs) (hk : KeepI w w') : Seg k w' ao xs := by
  rcases h with h | ⟨b, off, rfl, hc⟩
  · exact Or.inl h
  · exact Or.inr ⟨b, off, rfl, fun i hi => hk.1 _ _ _ (hc i hi)⟩
theorem AInt.keepI {w w' : World} {v : Value} {z : Int} (h : AInt w v z) (hk : KeepI w w') : AInt w' v z := by
  obtain ⟨neg, xs, ⟨ao, cap, h1, h2, h3, h4, h5⟩, h6⟩ := h
  exact ⟨neg, xs, ⟨ao, cap, h1, h2, h3, h4.keepI hk, h5⟩, h6⟩
/-- No machine number. -/
def NoI (u : Value) : Prop := ∀ k x, u ≠ .int k x
theorem noI_bool (x : Bool) : NoI (.bool x) := fun _ _ h => by cases h
theorem noI_slice (a : Option Addr) (n c : Nat) : NoI (.slice a n c) := fun _ _ h => by cases h
theorem keepI_set {t : TypeId} {w : World} {b : Nat} {cs : Array Value} (h : Blk t w b cs) (hN : ∀ u ∈ cs.toList, NoI u) (i : Nat) (v : Value) : KeepI w (w.setCell ⟨b, i, none⟩ v) := by
  refine ⟨?_, fun g cs' t' hg => ?_⟩
  rotate_left
  · by_cases hb : g = b
    · subst hb; exact ⟨_, heap_setCell_same w g i _ t' v hg⟩
    · exact ⟨cs', (heap_setCell_other w ⟨b, i, none⟩ g v hb).trans hg⟩
  intro p k x hp
  by_cases hb : p.block = b
  · exfalso
    obtain ⟨pb, po, pm⟩ := p
    simp only at hb
    subst hb
    have h1 : pm = none ∧ cs[po]? = some (Value.int k x) := by simpa [World.cell?, show w.heap[pb]? = _ from h] using hp
    exact hN _ (by rw [Array.mem_toList_iff]; exact Array.mem_of_getElem? h1.2) k x rfl
  · rw [World.cell?_of_block (w := w) (heap_setCell_other w ⟨b, i, none⟩ p.block v hb)]
    exact hp
theorem below_new (w : World) (o : Obj) : Below w.heap.size w (w.alloc o) := (Below.refl _ _).alloc (Nat.le_refl _) _
def IS (v : Value) : Value → World → Prop := fun u _ => u = v
def INT (z : Int) : Value → World → Prop := fun u w => AInt w u z
def T3 (p q r : Value → World → Prop) : Value → World → Prop := fun u w => ∃ a b c, u = .tuple #[a, b, c] ∧ p a w ∧ q b w ∧ r c w
/-- What stays while machine numbers stay. -/
def Mono (p : Value → World → Prop) : Prop := ∀ u w w', KeepI w w' → p u w → p u w'
theorem mo_is {v : Value} : Mono (IS v) := fun _ _ _ _ h => h
theorem mo_int {z : Int} : Mono (INT z) := fun _ _ _ hk h => AInt.keepI h hk
theorem mo_t3 {p q r : Value → World → Prop} (hp : Mono p) (hq : Mono q) (hr : Mono r) : Mono (T3 p q r) := fun _ w w' hk h => by
  obtain ⟨a, b, c, rfl, h1, h2, h3⟩ := h
  exact ⟨a, b, c, rfl, hp _ _ _ hk h1, hq _ _ _ hk h2, hr _ _ _ hk h3⟩
theorem mv {p : Value → World → Prop} (hp : Mono p) {w w' : World} (hk : KeepI w w') {b : Prop} {u : Value} (h : b → p u w) : b → p u w' := fun k => hp _ _ _ hk (h k)
/-- A variable made in the region: it is at least at B. -/
def NEW (t : TypeId) (B : Nat) (w : World) (p v : Value) : Prop := ∃ b cs, p = .pointer (some ⟨b, 0, none⟩) ∧ B ≤ b ∧ v = .agg cs ∧ Blk t w b cs ∧ ∀ u ∈ cs.toList, NoI u
theorem NEW.below {t : TypeId} {B : Nat} {w w' : World} {p v : Value} (h : NEW t B w p v) (hb : Below w.heap.size w w') : NEW t B w' p v := by
  obtain ⟨b, cs, h1, h2, h3, h4, h5⟩ := h
  exact ⟨b, cs, h1, h2, h3, h4.stay hb, h5⟩
theorem NEW.mk {t : TypeId} {B : Nat} {w : World} {cs : Array Value} (hB : B ≤ w.heap.size) (h : ∀ u ∈ cs.toList, NoI u) : NEW t B (w.alloc (.cells cs t (0, 0))) (.pointer (some ⟨w.heap.size, 0, none⟩)) (.agg cs) := ⟨_, _, rfl, hB, rfl, Blk.new _ _ _, h⟩
theorem NEW.apart {t : TypeId} {B : Nat} {w : World} {p v : Value} (h : NEW t B w p v) : p ≠ .pointer (some ⟨w.heap.size, 0, none⟩) := by
  obtain ⟨b, cs, h1, h2, h3, h4, h5⟩ := h
  rw [h1]
  intro e
  have h6 := h4.lt
  injection e with e
  injection e with e
  injection e with e
  omega
theorem noI2 (x : Bool) (a : Option Addr) (n c : Nat) : ∀ u ∈ (#[.bool x, .slice a n c] : Array Value).toList, NoI u := by
  intro u hu; simp at hu; rcases hu with rfl | rfl
  · exact noI_bool _
  · exact noI_slice _ _ _
theorem keepI_two {t : TypeId} {w : World} {b : Nat} {x : Bool} {a : Option Addr} {n c : Nat} (h : Blk t w b #[.bool x, .slice a n c]) (y : Bool) (a' : Option Addr) (n' c' : Nat) :
    KeepI w ((w.setCell ⟨b, 0, none⟩ (.bool y)).setCell ⟨b, 1, none⟩ (.slice a' n' c')) := by
  have h0 := h.set 0 (.bool y)
  simp at h0
  exact (keepI_set h (noI2 _ _ _ _) _ _).trans (keepI_set h0 (noI2 _ _ _ _) _ _)
theorem Blk.over2 {t : TypeId} {w : World} {b : Nat} {p q : Value} (h : Blk t w b #[p, q]) (p' q' : Value) : Blk t ((w.setCell ⟨b, 0, none⟩ p').setCell ⟨b, 1, none⟩ q') b #[p', q'] := by
  have k := (h.set 0 p').set 1 q'; simpa using k
theorem Blk.other2 {t : TypeId} {w : World} {b d : Nat} {cs : Array Value} (h : Blk t w b cs) (hne : d ≠ b) (p' q' : Value) : Blk t ((w.setCell ⟨d, 0, none⟩ p').setCell ⟨d, 1, none⟩ q') b cs := (h.other hne _).other hne _
/-- A store into another block. -/
theorem NEW.other2 {t : TypeId} {B : Nat} {w : World} {p v : Value} (h : NEW t B w p v) {d : Nat} (hne : p ≠ .pointer (some ⟨d, 0, none⟩)) (p' q' : Value) : NEW t B ((w.setCell ⟨d, 0, none⟩ p').setCell ⟨d, 1, none⟩ q') p v := by
  obtain ⟨b, cs, h1, h2, h3, h4, h5⟩ := h
  exact ⟨b, cs, h1, h2, h3, h4.other2 (fun e => hne (by rw [h1, e])) _ _, h5⟩
theorem NEW.over2 {t : TypeId} {B : Nat} {w : World} {b : Nat} {p q : Value} (hB : B ≤ b) (h : Blk t w b #[p, q]) (x : Bool) (a : Option Addr) (n c : Nat) :
    NEW t B ((w.setCell ⟨b, 0, none⟩ (.bool x)).setCell ⟨b, 1, none⟩ (.slice a n c)) (.pointer (some ⟨b, 0, none⟩)) (.agg #[.bool x, .slice a n c]) := ⟨b, _, rfl, hB, rfl, h.over2 _ _, noI2 _ _ _ _⟩
theorem stored_new {t : TypeId} {B : Nat} {w : World} {p u p' u' : Value} (hp : p = p') (hu : u = u') (h : NEW t B w p' u') : NEW t B w p u := by rw [hp, hu]; exact h
theorem new_zero {t : TypeId} {B : Nat} {w : World} {p u z : Value} {b : Bool} (hb : b = false) (h : NEW t B w p z) : NEW t B w p (bif b then u else z) := by rw [hb]; exact h
theorem flip_v {P : Value → Prop} {b : Bool} (hb : b = false) {u u' z : Value} (h : P (bif b then u else z)) : P (bif b then u' else z) := by rw [hb] at h ⊢; exact h
end Go.Proofs.Ytlonnhnfmcndfad
