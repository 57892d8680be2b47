/- Contracts of arith's bitLength, Bits, Sign, signed, fitting, From, Small, Neg, Abs, cmpLimbs, Cmp; they prove no statement of the seat. -/
import Derived.Test.YtlonnhnfmcndfadBitsJGcd
namespace Go.Proofs.Ytlonnhnfmcndfad
open Go.RowKit

/-- A number's size and sign. -/
def sv (neg : Bool) (n : Nat) : Int := if neg then -(n : Int) else n
/-- What no number reaches. -/
def lim : Nat := 4294967296 ^ 32

/-- An arith.Int: its sign and its limbs. -/
def IntV (w : World) (v : Value) (neg : Bool) (xs : List Nat) : Prop :=
  ∃ ao cap, v = .agg #[.bool neg, .slice ao xs.length cap] ∧ xs.length ≤ cap ∧ cap ≤ 10000 ∧ Seg .u32 w ao xs ∧ Digs 4294967296 xs ∧ Norm xs ∧ (xs.length = 0 → neg = false)

theorem IntV.below {w w' : World} {v : Value} {neg : Bool} {xs : List Nat} (h : IntV w v neg xs) (hb : Below w.heap.size w w') : IntV w' v neg xs := by
  obtain ⟨ao, cap, h1, h2, h3, h4, h5⟩ := h
  exact ⟨ao, cap, h1, h2, h3, h4.below hb, h5⟩

theorem IntV.store2 {w : World} {v : Value} {neg : Bool} {xs : List Nat} (h : IntV w v neg xs) {t : TypeId} {b : Nat} {x : Bool} {a : Option Addr} {n c : Nat} (hB : Blk t w b #[.bool x, .slice a n c]) (y : Bool) (a' : Option Addr) (n' c' : Nat) :
    IntV ((w.setCell ⟨b, 0, none⟩ (.bool y)).setCell ⟨b, 1, none⟩ (.slice a' n' c')) v neg xs := by
  obtain ⟨ao, cap, h1, h2, h3, h4, h5⟩ := h
  exact ⟨ao, cap, h1, h2, h3, h4.store2 hB y a' n' c', h5⟩

theorem IntV.zero (w : World) : IntV w (.agg #[.bool false, .slice none 0 0]) false [] :=
  ⟨none, 0, rfl, Nat.le_refl _, by omega, Seg.nil _ _ _, Digs.nil _, Norm.nil, fun _ => rfl⟩

/-- An arith.Int: its value. -/
def AInt (w : World) (v : Value) (z : Int) : Prop := ∃ neg xs, IntV w v neg xs ∧ z = sv neg (val 4294967296 xs) ∧ val 4294967296 xs < lim

theorem AInt.below {w w' : World} {v : Value} {z : Int} (h : AInt w v z) (hb : Below w.heap.size w w') : AInt w' v z := by
  obtain ⟨neg, xs, h1, h2⟩ := h
  exact ⟨neg, xs, h1.below hb, h2⟩

theorem AInt.store2 {w : World} {v : Value} {z : Int} (h : AInt w v z) {t : TypeId} {b : Nat} {x : Bool} {a : Option Addr} {n c : Nat} (hB : Blk t w b #[.bool x, .slice a n c]) (y : Bool) (a' : Option Addr) (n' c' : Nat) :
    AInt ((w.setCell ⟨b, 0, none⟩ (.bool y)).setCell ⟨b, 1, none⟩ (.slice a' n' c')) v z := by
  obtain ⟨neg, xs, h1, h2⟩ := h
  exact ⟨neg, xs, h1.store2 hB y a' n' c', h2⟩

theorem sv_zero (neg : Bool) : sv neg 0 = 0 := by cases neg <;> simp [sv]
theorem sv_natAbs (neg : Bool) (n : Nat) : (sv neg n).natAbs = n := by cases neg <;> simp [sv]

theorem AInt.len {w : World} {v : Value} {neg : Bool} {xs : List Nat} (h : IntV w v neg xs) (hl : val 4294967296 xs < lim) : xs.length ≤ 32 := by
  obtain ⟨ao, cap, h1, h2, h3, h4, h5, h6, h7⟩ := h
  rcases Nat.lt_or_ge 32 xs.length with h | h
  · exfalso
    have h8 := h6.ge (B := 4294967296) (by intro e; subst e; simp at h) (by decide)
    have h9 : 4294967296 ^ 32 ≤ 4294967296 ^ (xs.length - 1) := Nat.pow_le_pow_right (by decide) (by omega)
    have h10 : lim = 4294967296 ^ 32 := rfl
    omega
  · exact h

set_option maxHeartbeats 400000 in
theorem signed_any (neg : Bool) (ao : Option Addr) (n cap : Nat) (xs : List Nat) (w : World) (hn : xs.length = n) (h1 : n ≤ cap) (h2 : cap ≤ 10000) (hs : Seg .u32 w ao xs) (hd : Digs 4294967296 xs) :
    Calls Try.prog 31 #[.bool neg, .slice ao n cap] w fun e w' => ∃ v neg', e = .returned v ∧ IntV w' v neg' (trimZ xs) ∧ sv neg' (val 4294967296 xs) = sv neg (val 4294967296 xs) ∧ Below w.heap.size w w' := by
  have HB : Hid (∀ o, Seg .u32 (w.alloc o) ao xs) := fun o => hs.below ((Below.refl _ _).alloc (Nat.le_refl _) _)
  by_cases ht : (trimZ xs).length = 0
  · have hz : (((trimZ xs).length : Int) == 0) = true := by simp [ht]
    have HX : Hid (trimZ xs = []) := List.eq_nil_of_length_eq_zero ht
    clear ht
    go_enter Try.func31, Try.ntmps31
    go_wp2_with (go_at_call 50; refine (trimmed_any _ _ _ xs _ hn h1 (by unfold maxLen; omega) (HB.out _)).mono ?_; rintro e w' ⟨rfl, rfl⟩)
    go_returns
    refine ⟨_, false, rfl, ?_, ?_, (Below.refl _ _).alloc (Nat.le_refl _) _⟩
    · rw [HX.out]; exact IntV.zero _
    · have := val_trimZ 4294967296 xs
      rw [HX.out, val_nil] at this
      rw [← this, sv_zero, sv_zero]
  · have hz : (((trimZ xs).length : Int) == 0) = false := by rw [beq_eq_false_iff_ne]; omega
    have HX : Hid (¬ (trimZ xs).length = 0) := ht
    clear ht
    go_enter Try.func31, Try.ntmps31
    go_wp2_with (go_at_call 50; refine (trimmed_any _ _ _ xs _ hn h1 (by unfold maxLen; omega) (HB.out _)).mono ?_; rintro e w' ⟨rfl, rfl⟩)
    go_returns
    refine ⟨_, neg, rfl, ⟨ao, cap, rfl, ?_, h2, ?_, hd.trimZ, norm_trimZ _, fun h => absurd h HX.out⟩, rfl, (Below.refl _ _).alloc (Nat.le_refl _) _⟩
    · have := trimZ_length_le xs; omega
    · have h4 := (HB.out (.cells #[.bool neg, .slice ao (trimZ xs).length cap] 50)).take (trimZ xs).length
      rw [← trimZ_take] at h4
      exact h4

set_option maxHeartbeats 400000 in
theorem sign_any (v : Value) (neg : Bool) (xs : List Nat) (w : World) (hv : IntV w v neg xs) :
    Calls Try.prog 21 #[v] w fun e w' => e = .returned (.int .i64 (sv neg (val 4294967296 xs)).sign) ∧ Below w.heap.size w w' := by
  obtain ⟨ao, cap, rfl, h1, h2, hs, hd, hn, h3⟩ := hv
  by_cases h0 : xs.length = 0
  · have hx : xs = [] := List.eq_nil_of_length_eq_zero h0
    subst hx
    go_enter Try.func21, Try.ntmps21
    go_wp2
    go_ret
    exact ⟨by rw [val_nil, sv_zero]; rfl, (Below.refl _ _).alloc (Nat.le_refl _) _⟩
  · have hp := (hn.pos (B := 4294967296) (by intro e; subst e; simp at h0)).resolve_right (by decide)
    have hz : ((xs.length : Int) == 0) = false := by rw [beq_eq_false_iff_ne]; omega
    cases neg with
    | true =>
      have HS : Hid ((sv true (val 4294967296 xs)).sign = -1) := by
        show (sv true (val 4294967296 xs)).sign = -1
        simp only [sv, if_true]; exact Int.sign_eq_neg_one_of_neg (by omega)
      clear h0 hp
      go_enter Try.func21, Try.ntmps21
      go_wp2
      go_ret
      exact ⟨by rw [HS.out]; rfl, (Below.refl _ _).alloc (Nat.le_refl _) _⟩
    | false =>
      have HS : Hid ((sv false (val 4294967296 xs)).sign = 1) := by
        show (sv false (val 4294967296 xs)).sign = 1
        simp only [sv]; exact Int.sign_eq_one_of_pos (by simp; omega)
      clear h0 hp
      go_enter Try.func21, Try.ntmps21
      go_wp2
      go_ret
      exact ⟨by rw [HS.out]; rfl, (Below.refl _ _).alloc (Nat.le_refl _) _⟩
end Go.Proofs.Ytlonnhnfmcndfad
