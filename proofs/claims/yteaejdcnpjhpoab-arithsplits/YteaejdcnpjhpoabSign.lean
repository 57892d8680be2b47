/- Contracts of arith's bitLength, Bits, Sign, signed, fitting, From, Small, Neg, Abs, cmpLimbs, Cmp; they prove no statement of the seat. -/
import Derived.Test.YteaejdcnpjhpoabBits
namespace Go.Proofs.Yteaejdcnpjhpoab
open Go.RowKit

theorem bitLen_bounds (x : Nat) (h0 : x ≠ 0) (h : x < 2 ^ 64) : 2 ^ (Lib.bitLen x - 1) ≤ x ∧ x < 2 ^ Lib.bitLen x ∧ 0 < Lib.bitLen x := by
  induction x using Nat.strongRecOn with
  | ind x ih =>
    rw [Lib.bitLen_half x h0 h]
    by_cases h1 : x = 1
    · subst h1; decide
    · obtain ⟨a, b, c⟩ := ih (x / 2) (by omega) (by omega) (by omega)
      have e : 1 + Lib.bitLen (x / 2) - 1 = (Lib.bitLen (x / 2) - 1) + 1 := by omega
      rw [e, Nat.pow_succ, Nat.add_comm 1, Nat.pow_succ]
      omega

/-- How many bits the number of limbs has. -/
def blen (xs : List Nat) : Nat := if xs.length = 0 then 0 else (xs.length - 1) * 32 + Lib.bitLen (xs.getD (xs.length - 1) 0)

theorem blen_bounds {xs : List Nat} (hd : Digs 4294967296 xs) (hn : Norm xs) (hne : 0 < xs.length) : 2 ^ (blen xs - 1) ≤ val 4294967296 xs ∧ val 4294967296 xs < 2 ^ blen xs ∧ 0 < blen xs := by
  have ht := hn.last hne
  have hlt := hd.getD (by decide) (xs.length - 1)
  obtain ⟨a, b, c⟩ := bitLen_bounds _ ht (by omega)
  have e1 : val 4294967296 xs = val 4294967296 (xs.take (xs.length - 1)) + 4294967296 ^ (xs.length - 1) * xs.getD (xs.length - 1) 0 := by
    have := val_take_succ 4294967296 xs (xs.length - 1) (by omega)
    rwa [show xs.length - 1 + 1 = xs.length by omega, List.take_length] at this
  have e2 := val_lt (hd.take (xs.length - 1))
  rw [List.length_take, Nat.min_eq_left (by omega)] at e2
  have e3 : (4294967296 : Nat) ^ (xs.length - 1) = 2 ^ ((xs.length - 1) * 32) := by
    rw [Nat.mul_comm, Nat.pow_mul]
  rw [e3] at e1 e2
  unfold blen
  rw [if_neg (by omega)]
  generalize xs.getD (xs.length - 1) 0 = t at *
  generalize (xs.length - 1) * 32 = s at *
  generalize val 4294967296 (xs.take (xs.length - 1)) = r at *
  refine ⟨?_, ?_, by omega⟩
  · rw [show s + Lib.bitLen t - 1 = s + (Lib.bitLen t - 1) by omega, Nat.pow_add, e1]
    exact Nat.le_trans (Nat.mul_le_mul_left _ a) (Nat.le_add_left _ _)
  · rw [Nat.pow_add, e1]
    have : 2 ^ s * (t + 1) ≤ 2 ^ s * 2 ^ Lib.bitLen t := Nat.mul_le_mul_left _ b
    rw [Nat.mul_add, Nat.mul_one] at this
    omega

theorem blen_le_iff {xs : List Nat} (hd : Digs 4294967296 xs) (hn : Norm xs) (k : Nat) : blen xs ≤ k ↔ val 4294967296 xs < 2 ^ k := by
  by_cases hne : 0 < xs.length
  · obtain ⟨a, b, c⟩ := blen_bounds hd hn hne
    constructor
    · intro h; exact Nat.lt_of_lt_of_le b (Nat.pow_le_pow_right (by decide) h)
    · intro h
      rcases Nat.lt_or_ge k (blen xs) with h' | h'
      · have : 2 ^ k ≤ 2 ^ (blen xs - 1) := Nat.pow_le_pow_right (by decide) (by omega)
        omega
      · exact h'
  · have : xs = [] := List.eq_nil_of_length_eq_zero (by omega)
    subst this
    simp [blen, val]
    exact Nat.pow_pos (by decide)

set_option maxHeartbeats 400000 in
theorem bitLength_any (ao : Option Addr) (n cap : Nat) (xs : List Nat) (w : World) (hn : xs.length = n) (h1 : n ≤ 10000) (hs : Seg .u32 w ao xs) (hd : Digs 4294967296 xs) :
    Calls Try.prog 35 #[.slice ao n cap] w fun e w' => e = .returned (.int .i64 (blen xs)) ∧ w' = w := by
  subst hn
  by_cases h0 : 0 < xs.length
  · obtain ⟨b, off, rfl, hc⟩ := hs.open 0 h0
    have hcell := hc (xs.length - 1) (by omega)
    have hlt := hd.get (by decide) (xs.length - 1)
    have hz : ((xs.length : Int) == 0) = false := by rw [beq_eq_false_iff_ne]; omega
    clear hc
    have HF : Hid (blen xs = (xs.length - 1) * 32 + Lib.bitLen (xs[xs.length - 1]?.getD 0)) := by
      show blen xs = _
      unfold blen; rw [if_neg (by omega), List.getD_eq_getElem?_getD]
    have hb8 := Lib.bitLen_le (xs[xs.length - 1]?.getD 0) 32 (by decide) hlt
    go_enter Try.func35, Try.ntmps35
    go_wp2_with (go_at_call 54; refine (len32_any _ _ (by omega) (by omega)).mono ?_; rintro e w' ⟨rfl, rfl⟩)
    go_ret
    refine ⟨?_, rfl⟩
    rw [HF.out]
    refine congrArg Ending.returned (congrArg (Value.int IntKind.i64) ?_)
    omega
  · have hx : xs = [] := List.eq_nil_of_length_eq_zero (by omega)
    subst hx
    go_enter Try.func35, Try.ntmps35
    go_wp2
    go_ret
    exact ⟨rfl, rfl⟩

/-- A number's size and sign. -/
def sv (neg : Bool) (n : Nat) : Int := if neg then -(n : Int) else n
/-- What no number reaches. -/
def lim : Nat := 4294967296 ^ 32

/-- An arith.Int: its sign and its limbs. -/
def IntV (w : World) (v : Value) (neg : Bool) (xs : List Nat) : Prop :=
  ∃ ao cap, v = .agg #[.bool neg, .slice ao xs.length cap] ∧ xs.length ≤ cap ∧ cap ≤ 10000 ∧ Seg .u32 w ao xs ∧ Digs 4294967296 xs ∧ Norm xs ∧ (xs.length = 0 → neg = false)

theorem IntV.below {w w' : World} {v : Value} {neg : Bool} {xs : List Nat} (h : IntV w v neg xs) (hb : Below w.heap.size w w') : IntV w' v neg xs := by
  obtain ⟨ao, cap, h1, h2, h3, h4, h5⟩ := h
  exact ⟨ao, cap, h1, h2, h3, h4.below hb, h5⟩

theorem IntV.store2 {w : World} {v : Value} {neg : Bool} {xs : List Nat} (h : IntV w v neg xs) {t : TypeId} {b : Nat} {x : Bool} {a : Option Addr} {n c : Nat} (hB : Blk t w b #[.bool x, .slice a n c]) (y : Bool) (a' : Option Addr) (n' c' : Nat) :
    IntV ((w.setCell ⟨b, 0, none⟩ (.bool y)).setCell ⟨b, 1, none⟩ (.slice a' n' c')) v neg xs := by
  obtain ⟨ao, cap, h1, h2, h3, h4, h5⟩ := h
  exact ⟨ao, cap, h1, h2, h3, h4.store2 hB y a' n' c', h5⟩

theorem IntV.zero (w : World) : IntV w (.agg #[.bool false, .slice none 0 0]) false [] :=
  ⟨none, 0, rfl, Nat.le_refl _, by omega, Seg.nil _ _ _, Digs.nil _, Norm.nil, fun _ => rfl⟩

/-- An arith.Int: its value. -/
def AInt (w : World) (v : Value) (z : Int) : Prop := ∃ neg xs, IntV w v neg xs ∧ z = sv neg (val 4294967296 xs) ∧ val 4294967296 xs < lim

theorem AInt.below {w w' : World} {v : Value} {z : Int} (h : AInt w v z) (hb : Below w.heap.size w w') : AInt w' v z := by
  obtain ⟨neg, xs, h1, h2⟩ := h
  exact ⟨neg, xs, h1.below hb, h2⟩

theorem AInt.store2 {w : World} {v : Value} {z : Int} (h : AInt w v z) {t : TypeId} {b : Nat} {x : Bool} {a : Option Addr} {n c : Nat} (hB : Blk t w b #[.bool x, .slice a n c]) (y : Bool) (a' : Option Addr) (n' c' : Nat) :
    AInt ((w.setCell ⟨b, 0, none⟩ (.bool y)).setCell ⟨b, 1, none⟩ (.slice a' n' c')) v z := by
  obtain ⟨neg, xs, h1, h2⟩ := h
  exact ⟨neg, xs, h1.store2 hB y a' n' c', h2⟩

theorem lim_pos : 0 < lim := Nat.pow_pos (by decide)
theorem pow_aux (k a b B : Nat) (hk : k = a * b) (hB : 2 ^ a = B) : 2 ^ k = B ^ b := by
  subst hk; subst hB; exact Nat.pow_mul ..
theorem lim_pow (k : Nat) (hk : k = 32 * 32) : 2 ^ k = lim := pow_aux k 32 32 4294967296 hk rfl
theorem blen_lim_aux {xs : List Nat} (hd : Digs 4294967296 xs) (hn : Norm xs) (k : Nat) (hk : k = 32 * 32) : blen xs ≤ k ↔ val 4294967296 xs < lim := by
  rw [blen_le_iff hd hn k, lim_pow k hk]
theorem blen_lim {xs : List Nat} (hd : Digs 4294967296 xs) (hn : Norm xs) : blen xs ≤ 1024 ↔ val 4294967296 xs < lim := blen_lim_aux hd hn 1024 rfl

theorem AInt.zero (w : World) : AInt w (.agg #[.bool false, .slice none 0 0]) 0 := ⟨false, [], IntV.zero w, by simp [sv, val], by rw [val_nil]; exact lim_pos⟩

theorem sv_zero (neg : Bool) : sv neg 0 = 0 := by cases neg <;> simp [sv]
theorem sv_natAbs (neg : Bool) (n : Nat) : (sv neg n).natAbs = n := by cases neg <;> simp [sv]

theorem AInt.len {w : World} {v : Value} {neg : Bool} {xs : List Nat} (h : IntV w v neg xs) (hl : val 4294967296 xs < lim) : xs.length ≤ 32 := by
  obtain ⟨ao, cap, h1, h2, h3, h4, h5, h6, h7⟩ := h
  rcases Nat.lt_or_ge 32 xs.length with h | h
  · exfalso
    have h8 := h6.ge (B := 4294967296) (by intro e; subst e; simp at h) (by decide)
    have h9 : 4294967296 ^ 32 ≤ 4294967296 ^ (xs.length - 1) := Nat.pow_le_pow_right (by decide) (by omega)
    have h10 : lim = 4294967296 ^ 32 := rfl
    omega
  · exact h

set_option maxHeartbeats 400000 in
theorem signed_any (neg : Bool) (ao : Option Addr) (n cap : Nat) (xs : List Nat) (w : World) (hn : xs.length = n) (h1 : n ≤ cap) (h2 : cap ≤ 10000) (hs : Seg .u32 w ao xs) (hd : Digs 4294967296 xs) :
    Calls Try.prog 29 #[.bool neg, .slice ao n cap] w fun e w' => ∃ v neg', e = .returned v ∧ IntV w' v neg' (trimZ xs) ∧ sv neg' (val 4294967296 xs) = sv neg (val 4294967296 xs) ∧ Below w.heap.size w w' := by
  have HB : Hid (∀ o, Seg .u32 (w.alloc o) ao xs) := fun o => hs.below ((Below.refl _ _).alloc (Nat.le_refl _) _)
  by_cases ht : (trimZ xs).length = 0
  · have hz : (((trimZ xs).length : Int) == 0) = true := by simp [ht]
    have HX : Hid (trimZ xs = []) := List.eq_nil_of_length_eq_zero ht
    clear ht
    go_enter Try.func29, Try.ntmps29
    go_wp2_with (go_at_call 47; refine (trimmed_any _ _ _ xs _ hn h1 (by unfold maxLen; omega) (HB.out _)).mono ?_; rintro e w' ⟨rfl, rfl⟩)
    go_returns
    refine ⟨_, false, rfl, ?_, ?_, (Below.refl _ _).alloc (Nat.le_refl _) _⟩
    · rw [HX.out]; exact IntV.zero _
    · have := val_trimZ 4294967296 xs
      rw [HX.out, val_nil] at this
      rw [← this, sv_zero, sv_zero]
  · have hz : (((trimZ xs).length : Int) == 0) = false := by rw [beq_eq_false_iff_ne]; omega
    have HX : Hid (¬ (trimZ xs).length = 0) := ht
    clear ht
    go_enter Try.func29, Try.ntmps29
    go_wp2_with (go_at_call 47; refine (trimmed_any _ _ _ xs _ hn h1 (by unfold maxLen; omega) (HB.out _)).mono ?_; rintro e w' ⟨rfl, rfl⟩)
    go_returns
    refine ⟨_, neg, rfl, ⟨ao, cap, rfl, ?_, h2, ?_, hd.trimZ, norm_trimZ _, fun h => absurd h HX.out⟩, rfl, (Below.refl _ _).alloc (Nat.le_refl _) _⟩
    · have := trimZ_length_le xs; omega
    · have h4 := (HB.out (.cells #[.bool neg, .slice ao (trimZ xs).length cap] 25)).take (trimZ xs).length
      rw [← trimZ_take] at h4
      exact h4

set_option maxHeartbeats 400000 in
theorem bits_any (v : Value) (neg : Bool) (xs : List Nat) (w : World) (hv : IntV w v neg xs) :
    Calls Try.prog 17 #[v] w fun e w' => e = .returned (.int .i64 (blen xs)) ∧ Below w.heap.size w w' := by
  obtain ⟨ao, cap, rfl, h1, h2, hs, hd, hn, h3⟩ := hv
  have HB : Hid (∀ o, Seg .u32 (w.alloc o) ao xs) := fun o => hs.below ((Below.refl _ _).alloc (Nat.le_refl _) _)
  have HN : Hid (xs.length ≤ 10000) := Nat.le_trans h1 h2
  go_enter Try.func17, Try.ntmps17
  go_wp2_with (go_at_call 35; refine (bitLength_any _ _ _ xs _ rfl HN.out (HB.out _) hd).mono ?_; rintro e w' ⟨rfl, rfl⟩)
  go_ret
  exact ⟨rfl, (Below.refl _ _).alloc (Nat.le_refl _) _⟩

set_option maxHeartbeats 400000 in
theorem sign_any (v : Value) (neg : Bool) (xs : List Nat) (w : World) (hv : IntV w v neg xs) :
    Calls Try.prog 16 #[v] w fun e w' => e = .returned (.int .i64 (sv neg (val 4294967296 xs)).sign) ∧ Below w.heap.size w w' := by
  obtain ⟨ao, cap, rfl, h1, h2, hs, hd, hn, h3⟩ := hv
  by_cases h0 : xs.length = 0
  · have hx : xs = [] := List.eq_nil_of_length_eq_zero h0
    subst hx
    go_enter Try.func16, Try.ntmps16
    go_wp2
    go_ret
    exact ⟨by rw [val_nil, sv_zero]; rfl, (Below.refl _ _).alloc (Nat.le_refl _) _⟩
  · have hp := (hn.pos (B := 4294967296) (by intro e; subst e; simp at h0)).resolve_right (by decide)
    have hz : ((xs.length : Int) == 0) = false := by rw [beq_eq_false_iff_ne]; omega
    cases neg with
    | true =>
      have HS : Hid ((sv true (val 4294967296 xs)).sign = -1) := by
        show (sv true (val 4294967296 xs)).sign = -1
        simp only [sv, if_true]; exact Int.sign_eq_neg_one_of_neg (by omega)
      clear h0 hp
      go_enter Try.func16, Try.ntmps16
      go_wp2
      go_ret
      exact ⟨by rw [HS.out]; rfl, (Below.refl _ _).alloc (Nat.le_refl _) _⟩
    | false =>
      have HS : Hid ((sv false (val 4294967296 xs)).sign = 1) := by
        show (sv false (val 4294967296 xs)).sign = 1
        simp only [sv]; exact Int.sign_eq_one_of_pos (by simp; omega)
      clear h0 hp
      go_enter Try.func16, Try.ntmps16
      go_wp2
      go_ret
      exact ⟨by rw [HS.out]; rfl, (Below.refl _ _).alloc (Nat.le_refl _) _⟩
end Go.Proofs.Yteaejdcnpjhpoab
