/- What slots and variables hold in a region that draws its order; no statement of the seat is proved here. -/
import Derived.Test.YtidpbdhhbeaijaaGreatRegJReckons
import Derived.Test.YtidpbdhhbeaijaaGreatQVJReckons
namespace Go.Proofs.YtidpbdhhbeaijaaGreat
open Go Go.RowKit

def IS (v : Value) : Value → World → Prop := fun u _ => u = v
def INT (z : Int) : Value → World → Prop := fun u w => AInt w u z
def RNM (z : Int) (N : Nat) : Value → World → Prop := fun u w => RNum w u z N
def RAT (q : Rat) : Value → World → Prop := fun u w => QV w u q
def T2 (p q : Value → World → Prop) : Value → World → Prop := fun u w => ∃ a b, u = .tuple #[a, b] ∧ p a w ∧ q b w
def T3 (p q r : Value → World → Prop) : Value → World → Prop := fun u w => ∃ a b c, u = .tuple #[a, b, c] ∧ p a w ∧ q b w ∧ r c w
/-- What stays while machine numbers stay. -/
def Mono (p : Value → World → Prop) : Prop := ∀ u w w', KeepI w w' → p u w → p u w'
theorem mo_is {v : Value} : Mono (IS v) := fun _ _ _ _ h => h
theorem mo_int {z : Int} : Mono (INT z) := fun _ _ _ hk h => AInt.keepI h hk
theorem mo_rnm {z : Int} {N : Nat} : Mono (RNM z N) := fun _ _ _ hk h => RNum.keepI h hk
theorem mo_rat {q : Rat} : Mono (RAT q) := fun _ _ _ hk h => by
  obtain ⟨x, a, n, c, y, e, m, f, rfl, h⟩ := h
  exact (h.keepI hk).val
theorem mo_t2 {p q : Value → World → Prop} (hp : Mono p) (hq : Mono q) : Mono (T2 p q) := fun _ w w' hk h => by
  obtain ⟨a, b, rfl, h1, h2⟩ := h
  exact ⟨a, b, rfl, hp _ _ _ hk h1, hq _ _ _ hk h2⟩
theorem mo_t3 {p q r : Value → World → Prop} (hp : Mono p) (hq : Mono q) (hr : Mono r) : Mono (T3 p q r) := fun _ w w' hk h => by
  obtain ⟨a, b, c, rfl, h1, h2, h3⟩ := h
  exact ⟨a, b, c, rfl, hp _ _ _ hk h1, hq _ _ _ hk h2, hr _ _ _ hk h3⟩
theorem mv {p : Value → World → Prop} (hp : Mono p) {w w' : World} (hk : KeepI w w') {b : Prop} {u : Value} (h : b → p u w) : b → p u w' := fun k => hp _ _ _ hk (h k)
theorem KeepI.refl (w : World) : KeepI w w := fun _ _ _ h => h
theorem keepI_new (w : World) (o : Obj) : KeepI w (w.alloc o) := KeepI.below (below_new w o)

/-- A variable made in the region: it is at least at B. -/
def NEW (t : TypeId) (B : Nat) (w : World) (p v : Value) : Prop := ∃ b cs, p = .pointer (some ⟨b, 0, none⟩) ∧ B ≤ b ∧ v = .agg cs ∧ Blk t w b cs ∧ ∀ u ∈ cs.toList, NoI u
theorem NEW.below {t : TypeId} {B : Nat} {w w' : World} {p v : Value} (h : NEW t B w p v) (hb : Below w.heap.size w w') : NEW t B w' p v := by
  obtain ⟨b, cs, h1, h2, h3, h4, h5⟩ := h
  exact ⟨b, cs, h1, h2, h3, h4.stay hb, h5⟩
theorem NEW.mk {t : TypeId} {B : Nat} {w : World} {cs : Array Value} (hB : B ≤ w.heap.size) (h : ∀ u ∈ cs.toList, NoI u) : NEW t B (w.alloc (.cells cs t (0, 0))) (.pointer (some ⟨w.heap.size, 0, none⟩)) (.agg cs) := ⟨_, _, rfl, hB, rfl, Blk.new _ _ _, h⟩
theorem NEW.apart {t : TypeId} {B : Nat} {w : World} {p v : Value} (h : NEW t B w p v) : p ≠ .pointer (some ⟨w.heap.size, 0, none⟩) := by
  obtain ⟨b, cs, h1, h2, h3, h4, h5⟩ := h
  rw [h1]
  intro e
  have h6 := h4.lt
  injection e with e
  injection e with e
  injection e with e
  omega
theorem noI2 (x : Bool) (a : Option Addr) (n c : Nat) : ∀ u ∈ (#[.bool x, .slice a n c] : Array Value).toList, NoI u := by
  intro u hu; simp at hu; rcases hu with rfl | rfl
  · exact noI_bool _
  · exact noI_slice _ _ _
theorem noI4 (x : Bool) (a : Option Addr) (n c : Nat) (y : Bool) (e : Option Addr) (m f : Nat) : ∀ u ∈ (#[.bool x, .slice a n c, .bool y, .slice e m f] : Array Value).toList, NoI u := by
  intro u hu; simp at hu; rcases hu with rfl | rfl | rfl | rfl
  · exact noI_bool _
  · exact noI_slice _ _ _
  · exact noI_bool _
  · exact noI_slice _ _ _
theorem keepI_two {t : TypeId} {w : World} {b : Nat} {x : Bool} {a : Option Addr} {n c : Nat} (h : Blk t w b #[.bool x, .slice a n c]) (y : Bool) (a' : Option Addr) (n' c' : Nat) :
    KeepI w ((w.setCell ⟨b, 0, none⟩ (.bool y)).setCell ⟨b, 1, none⟩ (.slice a' n' c')) := by
  have h0 := h.set 0 (.bool y)
  simp at h0
  exact (keepI_set h (noI2 _ _ _ _) _ _).trans (keepI_set h0 (noI2 _ _ _ _) _ _)
theorem Blk.over2 {t : TypeId} {w : World} {b : Nat} {p q : Value} (h : Blk t w b #[p, q]) (p' q' : Value) : Blk t ((w.setCell ⟨b, 0, none⟩ p').setCell ⟨b, 1, none⟩ q') b #[p', q'] := by
  have k := (h.set 0 p').set 1 q'; simpa using k
theorem Blk.other2 {t : TypeId} {w : World} {b d : Nat} {cs : Array Value} (h : Blk t w b cs) (hne : d ≠ b) (p' q' : Value) : Blk t ((w.setCell ⟨d, 0, none⟩ p').setCell ⟨d, 1, none⟩ q') b cs := (h.other hne _).other hne _
/-- A store into another block. -/
theorem NEW.other2 {t : TypeId} {B : Nat} {w : World} {p v : Value} (h : NEW t B w p v) {d : Nat} (hne : p ≠ .pointer (some ⟨d, 0, none⟩)) (p' q' : Value) : NEW t B ((w.setCell ⟨d, 0, none⟩ p').setCell ⟨d, 1, none⟩ q') p v := by
  obtain ⟨b, cs, h1, h2, h3, h4, h5⟩ := h
  exact ⟨b, cs, h1, h2, h3, h4.other2 (fun e => hne (by rw [h1, e])) _ _, h5⟩
theorem NEW.other4 {t : TypeId} {B : Nat} {w : World} {p v : Value} (h : NEW t B w p v) {d : Nat} (hne : p ≠ .pointer (some ⟨d, 0, none⟩)) (p' q' r' s' : Value) : NEW t B ((((w.setCell ⟨d, 0, none⟩ p').setCell ⟨d, 1, none⟩ q').setCell ⟨d, 2, none⟩ r').setCell ⟨d, 3, none⟩ s') p v := by
  obtain ⟨b, cs, h1, h2, h3, h4, h5⟩ := h
  exact ⟨b, cs, h1, h2, h3, h4.other4 (fun e => hne (by rw [h1, e])) _ _ _ _, h5⟩
theorem NEW.old {t : TypeId} {B : Nat} {w : World} {p v : Value} (h : NEW t B w p v) {d : Nat} (hd : d < B) : p ≠ .pointer (some ⟨d, 0, none⟩) := by
  obtain ⟨b, cs, h1, h2, h3, h4, h5⟩ := h
  rw [h1]
  intro e
  injection e with e
  injection e with e
  injection e with e
  omega
theorem NEW.over2 {t : TypeId} {B : Nat} {w : World} {b : Nat} {p q : Value} (hB : B ≤ b) (h : Blk t w b #[p, q]) (x : Bool) (a : Option Addr) (n c : Nat) :
    NEW t B ((w.setCell ⟨b, 0, none⟩ (.bool x)).setCell ⟨b, 1, none⟩ (.slice a n c)) (.pointer (some ⟨b, 0, none⟩)) (.agg #[.bool x, .slice a n c]) := ⟨b, _, rfl, hB, rfl, h.over2 _ _, noI2 _ _ _ _⟩
theorem NEW.over4 {t : TypeId} {B : Nat} {w : World} {b : Nat} {p q r s : Value} (hB : B ≤ b) (h : Blk t w b #[p, q, r, s]) (x : Bool) (a : Option Addr) (n c : Nat) (y : Bool) (e : Option Addr) (m f : Nat) :
    NEW t B ((((w.setCell ⟨b, 0, none⟩ (.bool x)).setCell ⟨b, 1, none⟩ (.slice a n c)).setCell ⟨b, 2, none⟩ (.bool y)).setCell ⟨b, 3, none⟩ (.slice e m f)) (.pointer (some ⟨b, 0, none⟩)) (.agg #[.bool x, .slice a n c, .bool y, .slice e m f]) := ⟨b, _, rfl, hB, rfl, h.over4 _ _ _ _, noI4 _ _ _ _ _ _ _ _⟩
/-- An older variable, by its value. -/
def BlkV (t : TypeId) (w : World) (b : Nat) (v : Value) : Prop := ∃ cs, v = .agg cs ∧ Blk t w b cs
theorem BlkV.stay {t : TypeId} {w w' : World} {b : Nat} {v : Value} (h : BlkV t w b v) (hb : Below w.heap.size w w') : BlkV t w' b v := by
  obtain ⟨cs, h1, h2⟩ := h
  exact ⟨cs, h1, h2.stay hb⟩
theorem BlkV.other2 {t : TypeId} {w : World} {b : Nat} {v : Value} (h : BlkV t w b v) {d : Nat} (hne : d ≠ b) (p' q' : Value) : BlkV t ((w.setCell ⟨d, 0, none⟩ p').setCell ⟨d, 1, none⟩ q') b v := by
  obtain ⟨cs, h1, h2⟩ := h
  exact ⟨cs, h1, h2.other2 hne _ _⟩
theorem BlkV.other4 {t : TypeId} {w : World} {b : Nat} {v : Value} (h : BlkV t w b v) {d : Nat} (hne : d ≠ b) (p' q' r' s' : Value) : BlkV t ((((w.setCell ⟨d, 0, none⟩ p').setCell ⟨d, 1, none⟩ q').setCell ⟨d, 2, none⟩ r').setCell ⟨d, 3, none⟩ s') b v := by
  obtain ⟨cs, h1, h2⟩ := h
  exact ⟨cs, h1, h2.other4 hne _ _ _ _⟩
theorem stored_old {t : TypeId} {w : World} {b : Nat} {u : Value} {cs : Array Value} (hu : u = .agg cs) (h : Blk t w b cs) : BlkV t w b u := ⟨cs, hu, h⟩
theorem stored_new {t : TypeId} {B : Nat} {w : World} {p u p' u' : Value} (hp : p = p') (hu : u = u') (h : NEW t B w p' u') : NEW t B w p u := by rw [hp, hu]; exact h
theorem new_zero {t : TypeId} {B : Nat} {w : World} {p u z : Value} {b : Bool} (hb : b = false) (h : NEW t B w p z) : NEW t B w p (bif b then u else z) := by rw [hb]; exact h
theorem flip_v {P : Value → Prop} {b : Bool} (hb : b = false) {u u' z : Value} (h : P (bif b then u else z)) : P (bif b then u' else z) := by rw [hb] at h ⊢; exact h
end Go.Proofs.YtidpbdhhbeaijaaGreat
