/- Joined: QV, RegF, RInts1, RFrom: words and contracts; no statement of the seat is proved here. -/
import Derived.Test.YtidpbdhhbeaijaaJoin0Sums
import Derived.Test.YtidpbdhhbeaijaaJoin10Sums
import Derived.Test.YtidpbdhhbeaijaaJoin12Sums
/- Words for rationals in the machine: what a struct of two numbers holds, and what stores leave; no statement of the seat is proved here. -/
namespace Go.Proofs.Ytidpbdhhbeaijaa
open Go.RowKit

/-- What stands below, as the program keeps it: 0 for 1. -/
def dz (q : Rat) : Int := if q.den = 1 then 0 else q.den
/-- The eight parts of a struct of two numbers: the first is q's upper, the second its lower number. -/
def QP (w : World) (x : Bool) (a : Option Addr) (n c : Nat) (y : Bool) (e : Option Addr) (m f : Nat) (q : Rat) : Prop :=
  AInt w (.agg #[.bool x, .slice a n c]) q.num ∧ AInt w (.agg #[.bool y, .slice e m f]) (dz q)
/-- The value v is q. -/
def QV (w : World) (v : Value) (q : Rat) : Prop := ∃ x a n c y e m f, v = .agg #[.bool x, .slice a n c, .bool y, .slice e m f] ∧ QP w x a n c y e m f q

section
variable {w w' : World} {x : Bool} {a : Option Addr} {n c : Nat} {y : Bool} {e : Option Addr} {m f : Nat} {q : Rat} {v : Value}
theorem QP.below (h : QP w x a n c y e m f q) (hb : Below w.heap.size w w') : QP w' x a n c y e m f q := ⟨h.1.below hb, h.2.below hb⟩
theorem QP.keepI (h : QP w x a n c y e m f q) (hk : KeepI w w') : QP w' x a n c y e m f q := ⟨h.1.keepI hk, h.2.keepI hk⟩
theorem QP.val (h : QP w x a n c y e m f q) : QV w (.agg #[.bool x, .slice a n c, .bool y, .slice e m f]) q := ⟨x, a, n, c, y, e, m, f, rfl, h⟩
theorem QV.below (h : QV w v q) (hb : Below w.heap.size w w') : QV w' v q := by
  obtain ⟨x, a, n, c, y, e, m, f, rfl, h⟩ := h
  exact (h.below hb).val
theorem QP.whole {z : Int} (h : AInt w (.agg #[.bool x, .slice a n c]) z) : QP w x a n c false none 0 0 (z : Rat) := ⟨h, AInt.zero w⟩
theorem QP.zero : QP w false none 0 0 false none 0 0 0 := ⟨AInt.zero w, AInt.zero w⟩
end
theorem dz_one {q : Rat} (h : q.den = 1) : dz q = 0 := if_pos h
theorem dz_not {q : Rat} (h : q.den ≠ 1) : dz q = q.den := if_neg h
theorem dz_sign (q : Rat) : (dz q).sign = 0 ↔ q.den = 1 := by
  unfold dz
  split
  · rename_i h; simp [h]
  · rename_i h; rw [Int.sign_eq_zero_iff_zero]; have := q.den_nz; constructor <;> (intro; omega)

theorem Blk.four {t : TypeId} {w : World} {b : Nat} {p q r s : Value} (h : Blk t w b #[p, q, r, s]) :
    w.cell? ⟨b, 0, none⟩ = some p ∧ w.cell? ⟨b, 1, none⟩ = some q ∧ w.cell? ⟨b, 2, none⟩ = some r ∧ w.cell? ⟨b, 3, none⟩ = some s :=
  ⟨h.cell 0, h.cell 1, h.cell 2, h.cell 3⟩
theorem Blk.frozen4 {t : TypeId} {w : World} {b : Nat} {p q r s : Value} (h : Blk t w b #[p, q, r, s]) :
    w.frozen? ⟨b, 0, none⟩ = false ∧ w.frozen? ⟨b, 1, none⟩ = false ∧ w.frozen? ⟨b, 2, none⟩ = false ∧ w.frozen? ⟨b, 3, none⟩ = false :=
  ⟨h.frozen 0, h.frozen 1, h.frozen 2, h.frozen 3⟩
theorem noI_bool (x : Bool) : NoI (.bool x) := fun _ _ h => by cases h
theorem noI_slice (a : Option Addr) (n c : Nat) : NoI (.slice a n c) := fun _ _ h => by cases h
theorem keepI_set {t : TypeId} {w : World} {b : Nat} {cs : Array Value} (h : Blk t w b cs) (hN : ∀ u ∈ cs.toList, NoI u) (i : Nat) (v : Value) : KeepI w (w.setCell ⟨b, i, none⟩ v) := by
  intro p k x hp
  by_cases hb : p.block = b
  · exfalso
    obtain ⟨pb, po, pm⟩ := p
    simp only at hb
    subst hb
    have h1 : pm = none ∧ cs[po]? = some (Value.int k x) := by simpa [World.cell?, show w.heap[pb]? = _ from h] using hp
    exact hN _ (by rw [Array.mem_toList_iff]; exact Array.mem_of_getElem? h1.2) k x rfl
  · rw [World.cell?_of_block (w := w) (heap_setCell_other w ⟨b, i, none⟩ p.block v hb)]
    exact hp
/-- A struct variable of two numbers, written whole. -/
theorem keepI_four {t : TypeId} {w : World} {b : Nat} {p r : Bool} {q s : Value} (hq : NoI q) (hs : NoI s) (h : Blk t w b #[.bool p, q, .bool r, s]) (x : Bool) (a : Option Addr) (n c : Nat) (y : Bool) (e : Option Addr) (m f : Nat) :
    KeepI w ((((w.setCell ⟨b, 0, none⟩ (.bool x)).setCell ⟨b, 1, none⟩ (.slice a n c)).setCell ⟨b, 2, none⟩ (.bool y)).setCell ⟨b, 3, none⟩ (.slice e m f)) := by
  have h0 := h.set 0 (.bool x)
  have h1 := h0.set 1 (.slice a n c)
  have h2 := h1.set 2 (.bool y)
  simp at h0 h1 h2
  have N : ∀ {u1 u2 u3 u4 : Value}, NoI u1 → NoI u2 → NoI u3 → NoI u4 → ∀ u ∈ (#[u1, u2, u3, u4] : Array Value).toList, NoI u := by
    intro u1 u2 u3 u4 n1 n2 n3 n4 u hu
    simp at hu
    rcases hu with rfl | rfl | rfl | rfl <;> assumption
  exact (((keepI_set h (N (noI_bool _) hq (noI_bool _) hs) _ _).trans (keepI_set h0 (N (noI_bool _) hq (noI_bool _) hs) _ _)).trans (keepI_set h1 (N (noI_bool _) (noI_slice _ _ _) (noI_bool _) hs) _ _)).trans (keepI_set h2 (N (noI_bool _) (noI_slice _ _ _) (noI_bool _) hs) _ _)
theorem Blk.over4 {t : TypeId} {w : World} {b : Nat} {p q r s : Value} (h : Blk t w b #[p, q, r, s]) (p' q' r' s' : Value) :
    Blk t ((((w.setCell ⟨b, 0, none⟩ p').setCell ⟨b, 1, none⟩ q').setCell ⟨b, 2, none⟩ r').setCell ⟨b, 3, none⟩ s') b #[p', q', r', s'] := by
  have k := (((h.set 0 p').set 1 q').set 2 r').set 3 s'; simpa using k
theorem Blk.other4 {t : TypeId} {w : World} {b d : Nat} {cs : Array Value} (h : Blk t w b cs) (hne : d ≠ b) (p' q' r' s' : Value) :
    Blk t ((((w.setCell ⟨d, 0, none⟩ p').setCell ⟨d, 1, none⟩ q').setCell ⟨d, 2, none⟩ r').setCell ⟨d, 3, none⟩ s') b cs :=
  (((h.other hne _).other hne _).other hne _).other hne _
theorem below_store4 {w w1 : World} {B b : Nat} (h : Below B w w1) (hb : B ≤ b) (p q r s : Value) : Below B w ((((w1.setCell ⟨b, 0, none⟩ p).setCell ⟨b, 1, none⟩ q).setCell ⟨b, 2, none⟩ r).setCell ⟨b, 3, none⟩ s) :=
  (((h.setCell (p := ⟨b, 0, none⟩) hb p).setCell (p := ⟨b, 1, none⟩) hb q).setCell (p := ⟨b, 2, none⟩) hb r).setCell (p := ⟨b, 3, none⟩) hb s
end Go.Proofs.Ytidpbdhhbeaijaa
/- What slots and variables hold in a region that draws its order; no statement of the seat is proved here. -/
namespace Go.Proofs.Ytidpbdhhbeaijaa
open Go Go.RowKit

def IS (v : Value) : Value → World → Prop := fun u _ => u = v
def INT (z : Int) : Value → World → Prop := fun u w => AInt w u z
def RNM (z : Int) (N : Nat) : Value → World → Prop := fun u w => RNum w u z N
def RAT (q : Rat) : Value → World → Prop := fun u w => QV w u q
def T2 (p q : Value → World → Prop) : Value → World → Prop := fun u w => ∃ a b, u = .tuple #[a, b] ∧ p a w ∧ q b w
def T3 (p q r : Value → World → Prop) : Value → World → Prop := fun u w => ∃ a b c, u = .tuple #[a, b, c] ∧ p a w ∧ q b w ∧ r c w
/-- What stays while machine numbers stay. -/
def Mono (p : Value → World → Prop) : Prop := ∀ u w w', KeepI w w' → p u w → p u w'
theorem mo_is {v : Value} : Mono (IS v) := fun _ _ _ _ h => h
theorem mo_int {z : Int} : Mono (INT z) := fun _ _ _ hk h => AInt.keepI h hk
theorem mo_rnm {z : Int} {N : Nat} : Mono (RNM z N) := fun _ _ _ hk h => RNum.keepI h hk
theorem mo_rat {q : Rat} : Mono (RAT q) := fun _ _ _ hk h => by
  obtain ⟨x, a, n, c, y, e, m, f, rfl, h⟩ := h
  exact (h.keepI hk).val
theorem mo_t2 {p q : Value → World → Prop} (hp : Mono p) (hq : Mono q) : Mono (T2 p q) := fun _ w w' hk h => by
  obtain ⟨a, b, rfl, h1, h2⟩ := h
  exact ⟨a, b, rfl, hp _ _ _ hk h1, hq _ _ _ hk h2⟩
theorem mo_t3 {p q r : Value → World → Prop} (hp : Mono p) (hq : Mono q) (hr : Mono r) : Mono (T3 p q r) := fun _ w w' hk h => by
  obtain ⟨a, b, c, rfl, h1, h2, h3⟩ := h
  exact ⟨a, b, c, rfl, hp _ _ _ hk h1, hq _ _ _ hk h2, hr _ _ _ hk h3⟩
theorem mv {p : Value → World → Prop} (hp : Mono p) {w w' : World} (hk : KeepI w w') {b : Prop} {u : Value} (h : b → p u w) : b → p u w' := fun k => hp _ _ _ hk (h k)
theorem KeepI.refl (w : World) : KeepI w w := fun _ _ _ h => h
theorem keepI_new (w : World) (o : Obj) : KeepI w (w.alloc o) := KeepI.below (below_new w o)

/-- A variable made in the region: it is at least at B. -/
def NEW (t : TypeId) (B : Nat) (w : World) (p v : Value) : Prop := ∃ b cs, p = .pointer (some ⟨b, 0, none⟩) ∧ B ≤ b ∧ v = .agg cs ∧ Blk t w b cs ∧ ∀ u ∈ cs.toList, NoI u
theorem NEW.below {t : TypeId} {B : Nat} {w w' : World} {p v : Value} (h : NEW t B w p v) (hb : Below w.heap.size w w') : NEW t B w' p v := by
  obtain ⟨b, cs, h1, h2, h3, h4, h5⟩ := h
  exact ⟨b, cs, h1, h2, h3, h4.stay hb, h5⟩
theorem NEW.mk {t : TypeId} {B : Nat} {w : World} {cs : Array Value} (hB : B ≤ w.heap.size) (h : ∀ u ∈ cs.toList, NoI u) : NEW t B (w.alloc (.cells cs t (0, 0))) (.pointer (some ⟨w.heap.size, 0, none⟩)) (.agg cs) := ⟨_, _, rfl, hB, rfl, Blk.new _ _ _, h⟩
theorem NEW.apart {t : TypeId} {B : Nat} {w : World} {p v : Value} (h : NEW t B w p v) : p ≠ .pointer (some ⟨w.heap.size, 0, none⟩) := by
  obtain ⟨b, cs, h1, h2, h3, h4, h5⟩ := h
  rw [h1]
  intro e
  have h6 := h4.lt
  injection e with e
  injection e with e
  injection e with e
  omega
theorem noI2 (x : Bool) (a : Option Addr) (n c : Nat) : ∀ u ∈ (#[.bool x, .slice a n c] : Array Value).toList, NoI u := by
  intro u hu; simp at hu; rcases hu with rfl | rfl
  · exact noI_bool _
  · exact noI_slice _ _ _
theorem noI4 (x : Bool) (a : Option Addr) (n c : Nat) (y : Bool) (e : Option Addr) (m f : Nat) : ∀ u ∈ (#[.bool x, .slice a n c, .bool y, .slice e m f] : Array Value).toList, NoI u := by
  intro u hu; simp at hu; rcases hu with rfl | rfl | rfl | rfl
  · exact noI_bool _
  · exact noI_slice _ _ _
  · exact noI_bool _
  · exact noI_slice _ _ _
theorem keepI_two {t : TypeId} {w : World} {b : Nat} {x : Bool} {a : Option Addr} {n c : Nat} (h : Blk t w b #[.bool x, .slice a n c]) (y : Bool) (a' : Option Addr) (n' c' : Nat) :
    KeepI w ((w.setCell ⟨b, 0, none⟩ (.bool y)).setCell ⟨b, 1, none⟩ (.slice a' n' c')) := by
  have h0 := h.set 0 (.bool y)
  simp at h0
  exact (keepI_set h (noI2 _ _ _ _) _ _).trans (keepI_set h0 (noI2 _ _ _ _) _ _)
theorem Blk.over2 {t : TypeId} {w : World} {b : Nat} {p q : Value} (h : Blk t w b #[p, q]) (p' q' : Value) : Blk t ((w.setCell ⟨b, 0, none⟩ p').setCell ⟨b, 1, none⟩ q') b #[p', q'] := by
  have k := (h.set 0 p').set 1 q'; simpa using k
theorem Blk.other2 {t : TypeId} {w : World} {b d : Nat} {cs : Array Value} (h : Blk t w b cs) (hne : d ≠ b) (p' q' : Value) : Blk t ((w.setCell ⟨d, 0, none⟩ p').setCell ⟨d, 1, none⟩ q') b cs := (h.other hne _).other hne _
/-- A store into another block. -/
theorem NEW.other2 {t : TypeId} {B : Nat} {w : World} {p v : Value} (h : NEW t B w p v) {d : Nat} (hne : p ≠ .pointer (some ⟨d, 0, none⟩)) (p' q' : Value) : NEW t B ((w.setCell ⟨d, 0, none⟩ p').setCell ⟨d, 1, none⟩ q') p v := by
  obtain ⟨b, cs, h1, h2, h3, h4, h5⟩ := h
  exact ⟨b, cs, h1, h2, h3, h4.other2 (fun e => hne (by rw [h1, e])) _ _, h5⟩
theorem NEW.other4 {t : TypeId} {B : Nat} {w : World} {p v : Value} (h : NEW t B w p v) {d : Nat} (hne : p ≠ .pointer (some ⟨d, 0, none⟩)) (p' q' r' s' : Value) : NEW t B ((((w.setCell ⟨d, 0, none⟩ p').setCell ⟨d, 1, none⟩ q').setCell ⟨d, 2, none⟩ r').setCell ⟨d, 3, none⟩ s') p v := by
  obtain ⟨b, cs, h1, h2, h3, h4, h5⟩ := h
  exact ⟨b, cs, h1, h2, h3, h4.other4 (fun e => hne (by rw [h1, e])) _ _ _ _, h5⟩
theorem NEW.old {t : TypeId} {B : Nat} {w : World} {p v : Value} (h : NEW t B w p v) {d : Nat} (hd : d < B) : p ≠ .pointer (some ⟨d, 0, none⟩) := by
  obtain ⟨b, cs, h1, h2, h3, h4, h5⟩ := h
  rw [h1]
  intro e
  injection e with e
  injection e with e
  injection e with e
  omega
theorem NEW.over2 {t : TypeId} {B : Nat} {w : World} {b : Nat} {p q : Value} (hB : B ≤ b) (h : Blk t w b #[p, q]) (x : Bool) (a : Option Addr) (n c : Nat) :
    NEW t B ((w.setCell ⟨b, 0, none⟩ (.bool x)).setCell ⟨b, 1, none⟩ (.slice a n c)) (.pointer (some ⟨b, 0, none⟩)) (.agg #[.bool x, .slice a n c]) := ⟨b, _, rfl, hB, rfl, h.over2 _ _, noI2 _ _ _ _⟩
theorem NEW.over4 {t : TypeId} {B : Nat} {w : World} {b : Nat} {p q r s : Value} (hB : B ≤ b) (h : Blk t w b #[p, q, r, s]) (x : Bool) (a : Option Addr) (n c : Nat) (y : Bool) (e : Option Addr) (m f : Nat) :
    NEW t B ((((w.setCell ⟨b, 0, none⟩ (.bool x)).setCell ⟨b, 1, none⟩ (.slice a n c)).setCell ⟨b, 2, none⟩ (.bool y)).setCell ⟨b, 3, none⟩ (.slice e m f)) (.pointer (some ⟨b, 0, none⟩)) (.agg #[.bool x, .slice a n c, .bool y, .slice e m f]) := ⟨b, _, rfl, hB, rfl, h.over4 _ _ _ _, noI4 _ _ _ _ _ _ _ _⟩
/-- An older variable, by its value. -/
def BlkV (t : TypeId) (w : World) (b : Nat) (v : Value) : Prop := ∃ cs, v = .agg cs ∧ Blk t w b cs
theorem BlkV.stay {t : TypeId} {w w' : World} {b : Nat} {v : Value} (h : BlkV t w b v) (hb : Below w.heap.size w w') : BlkV t w' b v := by
  obtain ⟨cs, h1, h2⟩ := h
  exact ⟨cs, h1, h2.stay hb⟩
theorem BlkV.other2 {t : TypeId} {w : World} {b : Nat} {v : Value} (h : BlkV t w b v) {d : Nat} (hne : d ≠ b) (p' q' : Value) : BlkV t ((w.setCell ⟨d, 0, none⟩ p').setCell ⟨d, 1, none⟩ q') b v := by
  obtain ⟨cs, h1, h2⟩ := h
  exact ⟨cs, h1, h2.other2 hne _ _⟩
theorem BlkV.other4 {t : TypeId} {w : World} {b : Nat} {v : Value} (h : BlkV t w b v) {d : Nat} (hne : d ≠ b) (p' q' r' s' : Value) : BlkV t ((((w.setCell ⟨d, 0, none⟩ p').setCell ⟨d, 1, none⟩ q').setCell ⟨d, 2, none⟩ r').setCell ⟨d, 3, none⟩ s') b v := by
  obtain ⟨cs, h1, h2⟩ := h
  exact ⟨cs, h1, h2.other4 hne _ _ _ _⟩
theorem stored_old {t : TypeId} {w : World} {b : Nat} {u : Value} {cs : Array Value} (hu : u = .agg cs) (h : Blk t w b cs) : BlkV t w b u := ⟨cs, hu, h⟩
theorem stored_new {t : TypeId} {B : Nat} {w : World} {p u p' u' : Value} (hp : p = p') (hu : u = u') (h : NEW t B w p' u') : NEW t B w p u := by rw [hp, hu]; exact h
theorem new_zero {t : TypeId} {B : Nat} {w : World} {p u z : Value} {b : Bool} (hb : b = false) (h : NEW t B w p z) : NEW t B w p (bif b then u else z) := by rw [hb]; exact h
theorem flip_v {P : Value → Prop} {b : Bool} (hb : b = false) {u u' z : Value} (h : P (bif b then u else z)) : P (bif b then u' else z) := by rw [hb] at h ⊢; exact h
end Go.Proofs.Ytidpbdhhbeaijaa
/- Contracts of suretyref01's Cmp, Neg, Abs, From; they prove no statement of the seat. -/
namespace Go.Proofs.Ytidpbdhhbeaijaa
open Go.RowKit

theorem sv_pos10 {ds : List Nat} {neg : Bool} (hn : Norm ds) (h : ds.length = 0 → neg = false) : neg = true → 0 < val 10 ds := by
  intro hneg
  refine (hn.pos (B := 10) (List.ne_nil_of_length_pos ?_)).resolve_right (by decide)
  rcases Nat.eq_zero_or_pos ds.length with k | k
  · rw [h k] at hneg; cases hneg
  · exact k

set_option maxHeartbeats 4000000 in
theorem rCmp_any (va vb : Value) (x y : Int) (L M : Nat) (w : World) (ha : RNum w va x L) (hb : RNum w vb y M) (hL : L ≤ 100000) (hM : M ≤ 100000) :
    Calls Try.prog 45 #[va, vb] w fun e w' => e = .returned (.int .i64 (x - y).sign) ∧ Below w.heap.size w w' := by
  obtain ⟨na, xs, hva, hxe, hxl⟩ := ha
  obtain ⟨nb, ys, hvb, hye, hyl⟩ := hb
  obtain ⟨ao, cap, rfl, h1, h2, h4, hs, hd, hn, h3⟩ := hva
  obtain ⟨bo, cap', rfl, k1, k2, k4, ks, kd, kn, k3⟩ := hvb
  have HXY : Hid ((x - y) = sv na (val 10 xs) - sv nb (val 10 ys) ∧ (na = true → 0 < val 10 xs) ∧ (nb = true → 0 < val 10 ys)) := ⟨by rw [hxe, hye], sv_pos10 hn h3, sv_pos10 kn k3⟩
  clear hxe hye h3 k3 h4 k4
  have hbw : Below w.heap.size w ((w.alloc (.cells #[.bool na, .slice ao xs.length cap] 33 (0, 0))).alloc (.cells #[.bool nb, .slice bo ys.length cap'] 33 (0, 0))) := by go_grown
  cases na with
  | true =>
    cases nb with
    | true =>
      have HR : Hid ((x - y).sign = cmpL 10 ys xs) := by show _ = _; rw [HXY.out.1, sign_sub_neg, cmpL_norm (by decide) kd hd kn hn]
      go_enter Try.func45, Try.ntmps45
      go_wp2_with (go_at_call 80; refine (rcmp_any bo ao ys.length xs.length cap' cap ys xs _ rfl rfl (by omega) (by omega) (ks.below hbw) (hs.below hbw) kd hd).mono ?_; rintro e w1 ⟨rfl, hb1⟩)
      go_ret
      exact ⟨by rw [HR.out]; rfl, hbw.step hb1 (Nat.le_refl _)⟩
    | false =>
      have HR : Hid ((x - y).sign = -1) := by show _ = _; rw [HXY.out.1, sign_tf _ _ (HXY.out.2.1 rfl)]
      go_enter Try.func45, Try.ntmps45
      go_wp2
      go_ret
      exact ⟨by rw [HR.out]; rfl, hbw⟩
  | false =>
    cases nb with
    | true =>
      have HR : Hid ((x - y).sign = 1) := by show _ = _; rw [HXY.out.1, sign_ft _ _ (HXY.out.2.2 rfl)]
      go_enter Try.func45, Try.ntmps45
      go_wp2
      go_ret
      exact ⟨by rw [HR.out]; rfl, hbw⟩
    | false =>
      have HR : Hid ((x - y).sign = cmpL 10 xs ys) := by show _ = _; rw [HXY.out.1, sign_sub_pos, cmpL_norm (by decide) hd kd hn kn]
      go_enter Try.func45, Try.ntmps45
      go_wp2_with (go_at_call 80; refine (rcmp_any ao bo xs.length ys.length cap cap' xs ys _ rfl rfl (by omega) (by omega) (hs.below hbw) (ks.below hbw) hd kd).mono ?_; rintro e w1 ⟨rfl, hb1⟩)
      go_ret
      exact ⟨by rw [HR.out]; rfl, hbw.step hb1 (Nat.le_refl _)⟩

theorem rtrim_seg (neg : Bool) (v : Value) (xs : List Nat) (z : Int) (w : World) (hv : ∃ ao cap, v = .slice ao xs.length cap ∧ xs.length ≤ cap ∧ cap ≤ maxLen ∧ Seg .i64 w ao xs) (h3 : xs.length ≤ 10000) (hd : Digs 10 xs) (hz' : sv neg (val 10 xs) = z) :
    Calls Try.prog 84 #[.bool neg, v] w fun e w' => ∃ s a n c, e = .returned (.agg #[.bool s, .slice a n c]) ∧ RNum w' (.agg #[.bool s, .slice a n c]) z xs.length ∧ Below w.heap.size w w' := by
  obtain ⟨ao, cap, rfl, h1, h2, hs⟩ := hv
  subst hz'
  refine (rtrim_any neg ao xs.length cap xs w rfl h1 h2 h3 hs hd).mono ?_
  rintro e w' ⟨v, rfl, h, hb⟩
  obtain ⟨s, a, n, c, rfl⟩ := h.shape
  exact ⟨s, a, n, c, rfl, h, hb⟩

set_option maxHeartbeats 2000000 in
theorem rneg_any (va : Value) (x : Int) (L : Nat) (w : World) (ha : RNum w va x L) (hL : L ≤ 10000) :
    Calls Try.prog 69 #[va] w fun e w' => ∃ s a n c, e = .returned (.agg #[.bool s, .slice a n c]) ∧ RNum w' (.agg #[.bool s, .slice a n c]) (-x) L ∧ Below w.heap.size w w' := by
  obtain ⟨neg, xs, hva, hxe, hxl⟩ := ha
  obtain ⟨ao, cap, rfl, h1, h2, h4, hs, hd, hn, h3⟩ := hva
  have HZ : Hid (sv (!neg) (val 10 xs) = -x) := by show _ = _; rw [hxe]; cases neg <;> simp [sv]
  have hbw : Below w.heap.size w ((w.alloc (.cells #[.bool neg, .slice ao xs.length cap] 33 (0, 0))).alloc (.cells #[.bool false, .slice none 0 0] 33 (0, 0))) := by go_grown
  have R0 := Blk.new (w.alloc (.cells #[.bool neg, .slice ao xs.length cap] 33 (0, 0))) 33 #[.bool false, .slice none 0 0]
  simp only [World.size_alloc] at R0
  clear hxe h3
  go_enter Try.func69, Try.ntmps69
  go_wp2_with fail
  refine (rtrim_seg (!neg) _ xs (-x) _ ⟨ao, cap, rfl, h1, h2, hs.below hbw⟩ (by omega) hd HZ.out).mono ?_
  rintro e w1 ⟨s, a, n, c, rfl, hr, hb1⟩
  have R1 := R0.stay hb1
  obtain ⟨r0, r1, rf0, rf1⟩ := R1.two
  go_wp2
  refine bodyPost_ret (v := .agg #[.bool s, .slice a n c]) (by simp [results, Try.results69, go_sem, r0, r1]) rfl ?_
  exact ⟨_, _, _, _, rfl, (hr.mono hxl).store2 R1 _ _ _ _, below_store2 (hbw.step hb1 (Nat.le_refl _)) (by omega) _ _⟩

set_option maxHeartbeats 2000000 in
theorem rabs_any (va : Value) (x : Int) (L : Nat) (w : World) (ha : RNum w va x L) (hL : L ≤ 10000) :
    Calls Try.prog 82 #[va] w fun e w' => ∃ s a n c, e = .returned (.agg #[.bool s, .slice a n c]) ∧ RNum w' (.agg #[.bool s, .slice a n c]) (x.natAbs : Int) L ∧ Below w.heap.size w w' := by
  obtain ⟨neg, xs, hva, hxe, hxl⟩ := ha
  obtain ⟨ao, cap, rfl, h1, h2, h4, hs, hd, hn, h3⟩ := hva
  have HZ : Hid (sv false (val 10 xs) = (x.natAbs : Int)) := by show _ = _; rw [hxe, sv_natAbs]; simp [sv]
  have hbw : Below w.heap.size w ((w.alloc (.cells #[.bool neg, .slice ao xs.length cap] 33 (0, 0))).alloc (.cells #[.bool false, .slice none 0 0] 33 (0, 0))) := by go_grown
  have R0 := Blk.new (w.alloc (.cells #[.bool neg, .slice ao xs.length cap] 33 (0, 0))) 33 #[.bool false, .slice none 0 0]
  simp only [World.size_alloc] at R0
  clear hxe h3
  go_enter Try.func82, Try.ntmps82
  go_wp2_with fail
  refine (rtrim_seg false _ xs _ _ ⟨ao, cap, rfl, h1, h2, hs.below hbw⟩ (by omega) hd HZ.out).mono ?_
  rintro e w1 ⟨s, a, n, c, rfl, hr, hb1⟩
  have R1 := R0.stay hb1
  obtain ⟨r0, r1, rf0, rf1⟩ := R1.two
  go_wp2
  refine bodyPost_ret (v := .agg #[.bool s, .slice a n c]) (by simp [results, Try.results82, go_sem, r0, r1]) rfl ?_
  exact ⟨_, _, _, _, rfl, (hr.mono hxl).store2 R1 _ _ _ _, below_store2 (hbw.step hb1 (Nat.le_refl _)) (by omega) _ _⟩
end Go.Proofs.Ytidpbdhhbeaijaa
/- Contract of suretyref01's From; it proves no statement of the seat. -/
namespace Go.Proofs.Ytidpbdhhbeaijaa
open Go.RowKit

theorem from_word (n : Int) (h1 : -9223372036854775808 ≤ n) (h2 : n < 0) : IntKind.u64.wrap (-IntKind.u64.wrap n) = ((n.natAbs : Nat) : Int) := by
  simp only [IntKind.wrap, IntKind.bits, IntKind.signed]
  simp
  omega

set_option maxHeartbeats 4000000 in
theorem rfrom_any (n : Int) (w : World) (h1 : -9223372036854775808 ≤ n) (h2 : n ≤ 9223372036854775807) :
    Calls Try.prog 81 #[.int .i64 n] w fun e w' => ∃ s a m c, e = .returned (.agg #[.bool s, .slice a m c]) ∧ RNum w' (.agg #[.bool s, .slice a m c]) n 20 ∧ Below w.heap.size w w' := by
  have B0 := Blk.new w 33 #[.bool false, .slice none 0 0]
  have HLEN : Hid (∀ k u N : Nat, 0 < u → 10 ^ k * u ≤ N → N < 18446744073709551616 → k < 20) := by
    intro k u N hu h hN
    have h3 : 10 ^ k * 1 ≤ 10 ^ k * u := Nat.mul_le_mul_left _ hu
    have h4 : 10 ^ k < 10 ^ 20 := by omega
    exact (Nat.pow_lt_pow_iff_right (by decide)).1 h4
  by_cases hneg : n < 0
  · go_enter Try.func81, Try.ntmps81
    go_wp2
    go_loopw [3, 4] (fun uv v wr => ∃ u : Nat, ∃ zs, uv = .int .u64 u ∧ (u : Int) < 18446744073709551616 ∧ Own .i64 3 (w.heap.size + 1) wr v zs ∧ Digs 10 zs ∧ Hid (val 10 zs + 10 ^ zs.length * u = n.natAbs) ∧ Hid (zs.length ≤ 20) ∧ Below (w.heap.size + 1) (w.alloc (.cells #[.bool false, .slice none 0 0] 33)) wr) (fun uv _ _ => (intOf uv).toNat)
    case atStart =>
      refine ⟨n.natAbs, [], by rw [from_word n h1 hneg], by omega, Own.nil _ _ _ _, Digs.nil _, (by simp [val] : _ = _), (Nat.zero_le _ : _ ≤ _), Below.refl _ _⟩
    case round =>
      obtain ⟨u, zs, rfl, hu, hown, hd, HV, HL, hbel⟩ := hrel
      have HSZ : Hid (w.heap.size + 1 ≤ wr.heap.size) := by have := hbel.size; simp at this; exact this
      by_cases h0 : 0 < u
      · have HZL : Hid (zs.length ≤ 100000) := Nat.le_trans HL.out (by decide)
        go_wp2_with (at_builtin; refine wpList_append_num rfl (.tmp 13) (.tmp 17) 31 rfl (w.heap.size + 1) 3 .i64 8 Try.underlying31 Try.info3 (by decide) _ _ rfl hown _ (u % 10) (by omega) rfl HZL.out HSZ.out ?_; intro v' w3 hown3 hblk3 hbel3)
        go_roundw
        case rel =>
          refine ⟨u / 10, zs ++ [u % 10], by rw [Int.natCast_ediv]; rfl, by omega, hown3, hd.append (Digs.cons (Nat.mod_lt _ (by decide)) (Digs.nil _)), ?_, ?_, hbel.trans hbel3⟩
          · show _ = _
            rw [val_snoc, List.length_append, List.length_singleton, Nat.pow_succ, Nat.mul_assoc, Nat.add_assoc, ← Nat.mul_add, Nat.mod_add_div]
            exact HV.out
          · show _ ≤ _
            have := HLEN.out zs.length u n.natAbs h0 (by have := HV.out; omega) (by omega)
            simp; omega
        case measure => simp [intOf]; omega
      · have hu0 : u = 0 := by omega
        subst hu0
        have B1 := B0.keep hbel (by omega)
        obtain ⟨ao, cap, rfl, q1, q2, hsg, q3⟩ := hown.open
        have hbw : Below w.heap.size w wr := ((Below.refl _ _).alloc (Nat.le_refl _) _).trans (hbel.mono (by omega))
        go_wp2_with fail
        refine (rtrim_seg true _ zs n _ ⟨ao, cap, rfl, q1, q2, hsg⟩ (by have := HL.out; omega) hd (by have := HV.out; simp [sv]; omega)).mono ?_
        rintro e w1 ⟨s, a, m, c, rfl, hr, hb1⟩
        have R1 := B1.stay hb1
        obtain ⟨r0, r1, rf0, rf1⟩ := R1.two
        go_wp2
        refine bodyPost_ret (v := .agg #[.bool s, .slice a m c]) (by simp [results, Try.results81, go_sem, r0, r1]) rfl ?_
        exact ⟨_, _, _, _, rfl, (hr.mono HL.out).store2 R1 _ _ _ _, below_store2 (hbw.step hb1 (Nat.le_refl _)) (Nat.le_refl _) _ _⟩
  · obtain ⟨N, rfl⟩ := Int.eq_ofNat_of_zero_le (Int.not_lt.1 hneg)
    go_enter Try.func81, Try.ntmps81
    go_wp2
    go_loopw [3, 4] (fun uv v wr => ∃ u : Nat, ∃ zs, uv = .int .u64 u ∧ (u : Int) < 18446744073709551616 ∧ Own .i64 3 (w.heap.size + 1) wr v zs ∧ Digs 10 zs ∧ Hid (val 10 zs + 10 ^ zs.length * u = N) ∧ Hid (zs.length ≤ 20) ∧ Below (w.heap.size + 1) (w.alloc (.cells #[.bool false, .slice none 0 0] 33)) wr) (fun uv _ _ => (intOf uv).toNat)
    case atStart =>
      refine ⟨N, [], rfl, by omega, Own.nil _ _ _ _, Digs.nil _, (by simp [val] : _ = _), (Nat.zero_le _ : _ ≤ _), Below.refl _ _⟩
    case round =>
      obtain ⟨u, zs, rfl, hu, hown, hd, HV, HL, hbel⟩ := hrel
      have HSZ : Hid (w.heap.size + 1 ≤ wr.heap.size) := by have := hbel.size; simp at this; exact this
      by_cases h0 : 0 < u
      · have HZL : Hid (zs.length ≤ 100000) := Nat.le_trans HL.out (by decide)
        go_wp2_with (at_builtin; refine wpList_append_num rfl (.tmp 13) (.tmp 17) 31 rfl (w.heap.size + 1) 3 .i64 8 Try.underlying31 Try.info3 (by decide) _ _ rfl hown _ (u % 10) (by omega) rfl HZL.out HSZ.out ?_; intro v' w3 hown3 hblk3 hbel3)
        go_roundw
        case rel =>
          refine ⟨u / 10, zs ++ [u % 10], by rw [Int.natCast_ediv]; rfl, by omega, hown3, hd.append (Digs.cons (Nat.mod_lt _ (by decide)) (Digs.nil _)), ?_, ?_, hbel.trans hbel3⟩
          · show _ = _
            rw [val_snoc, List.length_append, List.length_singleton, Nat.pow_succ, Nat.mul_assoc, Nat.add_assoc, ← Nat.mul_add, Nat.mod_add_div]
            exact HV.out
          · show _ ≤ _
            have := HLEN.out zs.length u N h0 (by have := HV.out; omega) (by omega)
            simp; omega
        case measure => simp [intOf]; omega
      · have hu0 : u = 0 := by omega
        subst hu0
        have B1 := B0.keep hbel (by omega)
        obtain ⟨ao, cap, rfl, q1, q2, hsg, q3⟩ := hown.open
        have hbw : Below w.heap.size w wr := ((Below.refl _ _).alloc (Nat.le_refl _) _).trans (hbel.mono (by omega))
        go_wp2_with fail
        refine (rtrim_seg false _ zs N _ ⟨ao, cap, rfl, q1, q2, hsg⟩ (by have := HL.out; omega) hd (by have := HV.out; simp [sv]; omega)).mono ?_
        rintro e w1 ⟨s, a, m, c, rfl, hr, hb1⟩
        have R1 := B1.stay hb1
        obtain ⟨r0, r1, rf0, rf1⟩ := R1.two
        go_wp2
        refine bodyPost_ret (v := .agg #[.bool s, .slice a m c]) (by simp [results, Try.results81, go_sem, r0, r1]) rfl ?_
        exact ⟨_, _, _, _, rfl, (hr.mono HL.out).store2 R1 _ _ _ _, below_store2 (hbw.step hb1 (Nat.le_refl _)) (Nat.le_refl _) _ _⟩
end Go.Proofs.Ytidpbdhhbeaijaa
