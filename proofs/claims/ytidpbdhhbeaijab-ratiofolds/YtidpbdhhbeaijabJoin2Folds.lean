/- Joined: Sign, Scale, Text1, Parse: words and contracts; no statement of the seat is proved here. -/
import Derived.Test.YtidpbdhhbeaijabJoin1Folds
/- Contracts of arith's bitLength, Bits, Sign, signed, fitting, From, Small, Neg, Abs, cmpLimbs, Cmp; they prove no statement of the seat. -/
namespace Go.Proofs.Ytidpbdhhbeaijab
open Go.RowKit

theorem bitLen_bounds (x : Nat) (h0 : x ≠ 0) (h : x < 2 ^ 64) : 2 ^ (Lib.bitLen x - 1) ≤ x ∧ x < 2 ^ Lib.bitLen x ∧ 0 < Lib.bitLen x := by
  induction x using Nat.strongRecOn with
  | ind x ih =>
    rw [Lib.bitLen_half x h0 h]
    by_cases h1 : x = 1
    · subst h1; decide
    · obtain ⟨a, b, c⟩ := ih (x / 2) (by omega) (by omega) (by omega)
      have e : 1 + Lib.bitLen (x / 2) - 1 = (Lib.bitLen (x / 2) - 1) + 1 := by omega
      rw [e, Nat.pow_succ, Nat.add_comm 1, Nat.pow_succ]
      omega

/-- How many bits the number of limbs has. -/
def blen (xs : List Nat) : Nat := if xs.length = 0 then 0 else (xs.length - 1) * 32 + Lib.bitLen (xs.getD (xs.length - 1) 0)

theorem blen_bounds {xs : List Nat} (hd : Digs 4294967296 xs) (hn : Norm xs) (hne : 0 < xs.length) : 2 ^ (blen xs - 1) ≤ val 4294967296 xs ∧ val 4294967296 xs < 2 ^ blen xs ∧ 0 < blen xs := by
  have ht := hn.last hne
  have hlt := hd.getD (by decide) (xs.length - 1)
  obtain ⟨a, b, c⟩ := bitLen_bounds _ ht (by omega)
  have e1 : val 4294967296 xs = val 4294967296 (xs.take (xs.length - 1)) + 4294967296 ^ (xs.length - 1) * xs.getD (xs.length - 1) 0 := by
    have := val_take_succ 4294967296 xs (xs.length - 1) (by omega)
    rwa [show xs.length - 1 + 1 = xs.length by omega, List.take_length] at this
  have e2 := val_lt (hd.take (xs.length - 1))
  rw [List.length_take, Nat.min_eq_left (by omega)] at e2
  have e3 : (4294967296 : Nat) ^ (xs.length - 1) = 2 ^ ((xs.length - 1) * 32) := by
    rw [Nat.mul_comm, Nat.pow_mul]
  rw [e3] at e1 e2
  unfold blen
  rw [if_neg (by omega)]
  generalize xs.getD (xs.length - 1) 0 = t at *
  generalize (xs.length - 1) * 32 = s at *
  generalize val 4294967296 (xs.take (xs.length - 1)) = r at *
  refine ⟨?_, ?_, by omega⟩
  · rw [show s + Lib.bitLen t - 1 = s + (Lib.bitLen t - 1) by omega, Nat.pow_add, e1]
    exact Nat.le_trans (Nat.mul_le_mul_left _ a) (Nat.le_add_left _ _)
  · rw [Nat.pow_add, e1]
    have : 2 ^ s * (t + 1) ≤ 2 ^ s * 2 ^ Lib.bitLen t := Nat.mul_le_mul_left _ b
    rw [Nat.mul_add, Nat.mul_one] at this
    omega

theorem blen_le_iff {xs : List Nat} (hd : Digs 4294967296 xs) (hn : Norm xs) (k : Nat) : blen xs ≤ k ↔ val 4294967296 xs < 2 ^ k := by
  by_cases hne : 0 < xs.length
  · obtain ⟨a, b, c⟩ := blen_bounds hd hn hne
    constructor
    · intro h; exact Nat.lt_of_lt_of_le b (Nat.pow_le_pow_right (by decide) h)
    · intro h
      rcases Nat.lt_or_ge k (blen xs) with h' | h'
      · have : 2 ^ k ≤ 2 ^ (blen xs - 1) := Nat.pow_le_pow_right (by decide) (by omega)
        omega
      · exact h'
  · have : xs = [] := List.eq_nil_of_length_eq_zero (by omega)
    subst this
    simp [blen, val]
    exact Nat.pow_pos (by decide)

set_option maxHeartbeats 400000 in
theorem bitLength_any (ao : Option Addr) (n cap : Nat) (xs : List Nat) (w : World) (hn : xs.length = n) (h1 : n ≤ 10000) (hs : Seg .u32 w ao xs) (hd : Digs 4294967296 xs) :
    Calls Try.prog 86 #[.slice ao n cap] w fun e w' => e = .returned (.int .i64 (blen xs)) ∧ w' = w := by
  subst hn
  by_cases h0 : 0 < xs.length
  · obtain ⟨b, off, rfl, hc⟩ := hs.open 0 h0
    have hcell := hc (xs.length - 1) (by omega)
    have hlt := hd.get (by decide) (xs.length - 1)
    have hz : ((xs.length : Int) == 0) = false := by rw [beq_eq_false_iff_ne]; omega
    clear hc
    have HF : Hid (blen xs = (xs.length - 1) * 32 + Lib.bitLen (xs[xs.length - 1]?.getD 0)) := by
      show blen xs = _
      unfold blen; rw [if_neg (by omega), List.getD_eq_getElem?_getD]
    have hb8 := Lib.bitLen_le (xs[xs.length - 1]?.getD 0) 32 (by decide) hlt
    go_enter Try.func86, Try.ntmps86
    go_wp2_with (go_at_call 92; refine (len32_any _ _ (by omega) (by omega)).mono ?_; rintro e w' ⟨rfl, rfl⟩)
    go_ret
    refine ⟨?_, rfl⟩
    rw [HF.out]
    refine congrArg Ending.returned (congrArg (Value.int IntKind.i64) ?_)
    omega
  · have hx : xs = [] := List.eq_nil_of_length_eq_zero (by omega)
    subst hx
    go_enter Try.func86, Try.ntmps86
    go_wp2
    go_ret
    exact ⟨rfl, rfl⟩

/-- A number's size and sign. -/
def sv (neg : Bool) (n : Nat) : Int := if neg then -(n : Int) else n
/-- What no number reaches. -/
def lim : Nat := 4294967296 ^ 32

/-- An arith.Int: its sign and its limbs. -/
def IntV (w : World) (v : Value) (neg : Bool) (xs : List Nat) : Prop :=
  ∃ ao cap, v = .agg #[.bool neg, .slice ao xs.length cap] ∧ xs.length ≤ cap ∧ cap ≤ 10000 ∧ Seg .u32 w ao xs ∧ Digs 4294967296 xs ∧ Norm xs ∧ (xs.length = 0 → neg = false)

theorem IntV.below {w w' : World} {v : Value} {neg : Bool} {xs : List Nat} (h : IntV w v neg xs) (hb : Below w.heap.size w w') : IntV w' v neg xs := by
  obtain ⟨ao, cap, h1, h2, h3, h4, h5⟩ := h
  exact ⟨ao, cap, h1, h2, h3, h4.below hb, h5⟩

theorem IntV.store2 {w : World} {v : Value} {neg : Bool} {xs : List Nat} (h : IntV w v neg xs) {t : TypeId} {b : Nat} {x : Bool} {a : Option Addr} {n c : Nat} (hB : Blk t w b #[.bool x, .slice a n c]) (y : Bool) (a' : Option Addr) (n' c' : Nat) :
    IntV ((w.setCell ⟨b, 0, none⟩ (.bool y)).setCell ⟨b, 1, none⟩ (.slice a' n' c')) v neg xs := by
  obtain ⟨ao, cap, h1, h2, h3, h4, h5⟩ := h
  exact ⟨ao, cap, h1, h2, h3, h4.store2 hB y a' n' c', h5⟩

theorem IntV.zero (w : World) : IntV w (.agg #[.bool false, .slice none 0 0]) false [] :=
  ⟨none, 0, rfl, Nat.le_refl _, by omega, Seg.nil _ _ _, Digs.nil _, Norm.nil, fun _ => rfl⟩

/-- An arith.Int: its value. -/
def AInt (w : World) (v : Value) (z : Int) : Prop := ∃ neg xs, IntV w v neg xs ∧ z = sv neg (val 4294967296 xs) ∧ val 4294967296 xs < lim

theorem AInt.below {w w' : World} {v : Value} {z : Int} (h : AInt w v z) (hb : Below w.heap.size w w') : AInt w' v z := by
  obtain ⟨neg, xs, h1, h2⟩ := h
  exact ⟨neg, xs, h1.below hb, h2⟩

theorem AInt.store2 {w : World} {v : Value} {z : Int} (h : AInt w v z) {t : TypeId} {b : Nat} {x : Bool} {a : Option Addr} {n c : Nat} (hB : Blk t w b #[.bool x, .slice a n c]) (y : Bool) (a' : Option Addr) (n' c' : Nat) :
    AInt ((w.setCell ⟨b, 0, none⟩ (.bool y)).setCell ⟨b, 1, none⟩ (.slice a' n' c')) v z := by
  obtain ⟨neg, xs, h1, h2⟩ := h
  exact ⟨neg, xs, h1.store2 hB y a' n' c', h2⟩

theorem lim_pos : 0 < lim := Nat.pow_pos (by decide)
theorem pow_aux (k a b B : Nat) (hk : k = a * b) (hB : 2 ^ a = B) : 2 ^ k = B ^ b := by
  subst hk; subst hB; exact Nat.pow_mul ..
theorem lim_pow (k : Nat) (hk : k = 32 * 32) : 2 ^ k = lim := pow_aux k 32 32 4294967296 hk rfl
theorem blen_lim_aux {xs : List Nat} (hd : Digs 4294967296 xs) (hn : Norm xs) (k : Nat) (hk : k = 32 * 32) : blen xs ≤ k ↔ val 4294967296 xs < lim := by
  rw [blen_le_iff hd hn k, lim_pow k hk]
theorem blen_lim {xs : List Nat} (hd : Digs 4294967296 xs) (hn : Norm xs) : blen xs ≤ 1024 ↔ val 4294967296 xs < lim := blen_lim_aux hd hn 1024 rfl

theorem AInt.zero (w : World) : AInt w (.agg #[.bool false, .slice none 0 0]) 0 := ⟨false, [], IntV.zero w, by simp [sv, val], by rw [val_nil]; exact lim_pos⟩

theorem sv_zero (neg : Bool) : sv neg 0 = 0 := by cases neg <;> simp [sv]
theorem sv_natAbs (neg : Bool) (n : Nat) : (sv neg n).natAbs = n := by cases neg <;> simp [sv]

theorem AInt.len {w : World} {v : Value} {neg : Bool} {xs : List Nat} (h : IntV w v neg xs) (hl : val 4294967296 xs < lim) : xs.length ≤ 32 := by
  obtain ⟨ao, cap, h1, h2, h3, h4, h5, h6, h7⟩ := h
  rcases Nat.lt_or_ge 32 xs.length with h | h
  · exfalso
    have h8 := h6.ge (B := 4294967296) (by intro e; subst e; simp at h) (by decide)
    have h9 : 4294967296 ^ 32 ≤ 4294967296 ^ (xs.length - 1) := Nat.pow_le_pow_right (by decide) (by omega)
    have h10 : lim = 4294967296 ^ 32 := rfl
    omega
  · exact h

set_option maxHeartbeats 400000 in
theorem signed_any (neg : Bool) (ao : Option Addr) (n cap : Nat) (xs : List Nat) (w : World) (hn : xs.length = n) (h1 : n ≤ cap) (h2 : cap ≤ 10000) (hs : Seg .u32 w ao xs) (hd : Digs 4294967296 xs) :
    Calls Try.prog 43 #[.bool neg, .slice ao n cap] w fun e w' => ∃ v neg', e = .returned v ∧ IntV w' v neg' (trimZ xs) ∧ sv neg' (val 4294967296 xs) = sv neg (val 4294967296 xs) ∧ Below w.heap.size w w' := by
  have HB : Hid (∀ o, Seg .u32 (w.alloc o) ao xs) := fun o => hs.below ((Below.refl _ _).alloc (Nat.le_refl _) _)
  by_cases ht : (trimZ xs).length = 0
  · have hz : (((trimZ xs).length : Int) == 0) = true := by simp [ht]
    have HX : Hid (trimZ xs = []) := List.eq_nil_of_length_eq_zero ht
    clear ht
    go_enter Try.func43, Try.ntmps43
    go_wp2_with (go_at_call 66; refine (trimmed_any _ _ _ xs _ hn h1 (by unfold maxLen; omega) (HB.out _)).mono ?_; rintro e w' ⟨rfl, rfl⟩)
    go_returns
    refine ⟨_, false, rfl, ?_, ?_, (Below.refl _ _).alloc (Nat.le_refl _) _⟩
    · rw [HX.out]; exact IntV.zero _
    · have := val_trimZ 4294967296 xs
      rw [HX.out, val_nil] at this
      rw [← this, sv_zero, sv_zero]
  · have hz : (((trimZ xs).length : Int) == 0) = false := by rw [beq_eq_false_iff_ne]; omega
    have HX : Hid (¬ (trimZ xs).length = 0) := ht
    clear ht
    go_enter Try.func43, Try.ntmps43
    go_wp2_with (go_at_call 66; refine (trimmed_any _ _ _ xs _ hn h1 (by unfold maxLen; omega) (HB.out _)).mono ?_; rintro e w' ⟨rfl, rfl⟩)
    go_returns
    refine ⟨_, neg, rfl, ⟨ao, cap, rfl, ?_, h2, ?_, hd.trimZ, norm_trimZ _, fun h => absurd h HX.out⟩, rfl, (Below.refl _ _).alloc (Nat.le_refl _) _⟩
    · have := trimZ_length_le xs; omega
    · have h4 := (HB.out (.cells #[.bool neg, .slice ao (trimZ xs).length cap] 25)).take (trimZ xs).length
      rw [← trimZ_take] at h4
      exact h4

set_option maxHeartbeats 400000 in
theorem bits_any (v : Value) (neg : Bool) (xs : List Nat) (w : World) (hv : IntV w v neg xs) :
    Calls Try.prog 67 #[v] w fun e w' => e = .returned (.int .i64 (blen xs)) ∧ Below w.heap.size w w' := by
  obtain ⟨ao, cap, rfl, h1, h2, hs, hd, hn, h3⟩ := hv
  have HB : Hid (∀ o, Seg .u32 (w.alloc o) ao xs) := fun o => hs.below ((Below.refl _ _).alloc (Nat.le_refl _) _)
  have HN : Hid (xs.length ≤ 10000) := Nat.le_trans h1 h2
  go_enter Try.func67, Try.ntmps67
  go_wp2_with (go_at_call 86; refine (bitLength_any _ _ _ xs _ rfl HN.out (HB.out _) hd).mono ?_; rintro e w' ⟨rfl, rfl⟩)
  go_ret
  exact ⟨rfl, (Below.refl _ _).alloc (Nat.le_refl _) _⟩

set_option maxHeartbeats 400000 in
theorem sign_any (v : Value) (neg : Bool) (xs : List Nat) (w : World) (hv : IntV w v neg xs) :
    Calls Try.prog 40 #[v] w fun e w' => e = .returned (.int .i64 (sv neg (val 4294967296 xs)).sign) ∧ Below w.heap.size w w' := by
  obtain ⟨ao, cap, rfl, h1, h2, hs, hd, hn, h3⟩ := hv
  by_cases h0 : xs.length = 0
  · have hx : xs = [] := List.eq_nil_of_length_eq_zero h0
    subst hx
    go_enter Try.func40, Try.ntmps40
    go_wp2
    go_ret
    exact ⟨by rw [val_nil, sv_zero]; rfl, (Below.refl _ _).alloc (Nat.le_refl _) _⟩
  · have hp := (hn.pos (B := 4294967296) (by intro e; subst e; simp at h0)).resolve_right (by decide)
    have hz : ((xs.length : Int) == 0) = false := by rw [beq_eq_false_iff_ne]; omega
    cases neg with
    | true =>
      have HS : Hid ((sv true (val 4294967296 xs)).sign = -1) := by
        show (sv true (val 4294967296 xs)).sign = -1
        simp only [sv, if_true]; exact Int.sign_eq_neg_one_of_neg (by omega)
      clear h0 hp
      go_enter Try.func40, Try.ntmps40
      go_wp2
      go_ret
      exact ⟨by rw [HS.out]; rfl, (Below.refl _ _).alloc (Nat.le_refl _) _⟩
    | false =>
      have HS : Hid ((sv false (val 4294967296 xs)).sign = 1) := by
        show (sv false (val 4294967296 xs)).sign = 1
        simp only [sv]; exact Int.sign_eq_one_of_pos (by simp; omega)
      clear h0 hp
      go_enter Try.func40, Try.ntmps40
      go_wp2
      go_ret
      exact ⟨by rw [HS.out]; rfl, (Below.refl _ _).alloc (Nat.le_refl _) _⟩
end Go.Proofs.Ytidpbdhhbeaijab
/- Contract of arith.scaleLimbs; it proves no statement of the seat. -/
namespace Go.Proofs.Ytidpbdhhbeaijab
open Go.RowKit

theorem mul_lt_word (x f : Nat) (hx : x < 4294967296) (hf : f < 4294967296) : x * f ≤ 18446744065119617025 := Nat.mul_le_mul (show x ≤ 4294967295 by omega) (show f ≤ 4294967295 by omega)

set_option maxHeartbeats 1000000 in
theorem scaleLimbs_any (ao : Option Addr) (n cap f m : Nat) (xs : List Nat) (w : World) (hn : xs.length = n) (h1 : n ≤ 9000) (hs : Seg .u32 w ao xs) (hd : Digs 4294967296 xs) (hf : f < 4294967296) (hm : m < 4294967296) :
    Calls Try.prog 89 #[.slice ao n cap, .int .u32 f, .int .u32 m] w fun e w' => ∃ zs, e = .returned (.slice (some ⟨w.heap.size, 0, none⟩) (trimZ zs).length (n + 1)) ∧ zs.length = n + 1 ∧ Digs 4294967296 zs ∧ val 4294967296 zs = val 4294967296 xs * f + m ∧ Row .u32 91 w' w.heap.size zs ∧ Below w.heap.size w w' := by
  have HN : Hid (xs.length = n) := hn
  clear hn
  go_enter Try.func89, Try.ntmps89
  go_wp2_with (first
    | (at_make; refine wpList_make_nums _ rfl _ _ 23 rfl 91 .u32 4 Try.underlying23 Try.info91 _ _ _ _ (n + 1) rfl rfl (by omega) (by omega) (by decide) (by omega) ?_; intro w1 hr1 hb1 hz1))
  go_loopw [8, 20] (fun c i wr => ∃ k cN : Nat, ∃ zs : List Nat, k ≤ n ∧ i = .int .i64 k ∧ c = .int .u64 cN ∧ cN < 4294967296 ∧ zs.length = n + 1 ∧ Digs 4294967296 zs ∧
      Hid (val 4294967296 (zs.take k) + 4294967296 ^ k * cN = val 4294967296 (xs.take k) * f + m) ∧ Row .u32 91 wr w.heap.size zs ∧ Below w.heap.size w wr) (fun _ i _ => n - (intOf i).toNat)
  case atStart => exact ⟨0, m, _, Nat.zero_le _, rfl, rfl, hm, by simp, Digs.replicate _ _ (by decide), (by simp [val] : _ = _), hr1, hb1⟩
  case round =>
    obtain ⟨k, cN, zs, hk, rfl, rfl, hc, hzl, hzd, HV, hrow, hbel⟩ := hrel
    have HZ : Hid (zs.length = n + 1) := hzl
    clear hzl
    by_cases h0 : k < n
    · obtain ⟨b, off, rfl, hcs⟩ := hs.open k (by have := HN.out; omega)
      have hbw : b < w.heap.size := World.block_lt_of_cell? w ⟨b, off + k, none⟩ (hcs k (by have := HN.out; omega))
      have hcell : wr.cell? ⟨b, off + k, none⟩ = some (.int .u32 (xs.getD k 0 : Nat)) := (hbel.cell (p := ⟨b, off + k, none⟩) hbw).trans (hcs k (by have := HN.out; omega))
      obtain ⟨x, hx⟩ : ∃ x, x = xs.getD k 0 := ⟨_, rfl⟩
      have hxl : x < 4294967296 := hx ▸ hd.getD (by decide) k
      rw [← hx] at hcell
      have HX : Hid (x = xs.getD k 0) := hx
      have hout := hrow.cell k (by have := HZ.out; omega)
      obtain ⟨z, hz⟩ : ∃ z, z = zs.getD k 0 := ⟨_, rfl⟩
      rw [← hz] at hout
      have hfr := hrow.frozen k
      have hprod := mul_lt_word x f hxl hf
      have hprod' : (x : Int) * (f : Int) ≤ 18446744065119617025 := by rw [← Int.natCast_mul]; omega
      have hprod0 : 0 ≤ (x : Int) * (f : Int) := by rw [← Int.natCast_mul]; omega
      clear hx hz hcs hr1 hb1 hprod
      go_wp2
      go_roundw
      case rel =>
        refine ⟨k + 1, (x * f + cN) / 4294967296, zs.set k ((x * f + cN) % 4294967296), by omega, by go_num, rfl, ?_, ?_, ?_, ?_, ?_, ?_⟩
        · have := mul_lt_word x f hxl hf; omega
        · rw [List.length_set]; exact HZ.out
        · exact hzd.set _ _ (Nat.mod_lt _ (by decide))
        · show _ = _
          rw [val_set_succ _ _ _ _ (by have := HZ.out; omega), val_take_succ _ _ _ (by have := HN.out; omega), ← HX.out, Nat.pow_succ]
          exact scale_step _ _ _ _ _ _ _ _ _ _ HV.out (Nat.mod_add_div _ _)
        · exact hrow.set k _ _ rfl
        · exact hbel.setCell (Nat.le_refl _) _
      case measure => simp [intOf]; omega
    · have hkn : k = n := by omega
      subst hkn
      have hout := hrow.cell k (by have := HZ.out; omega)
      obtain ⟨z, hz⟩ : ∃ z, z = zs.getD k 0 := ⟨_, rfl⟩
      rw [← hz] at hout
      have hfr := hrow.frozen k
      have hrow' : Row .u32 91 (wr.setCell ⟨w.heap.size, k, none⟩ (.int .u32 (cN : Int))) w.heap.size (zs.set k cN) := hrow.set k _ _ rfl
      have hl' : (zs.set k cN).length = k + 1 := by rw [List.length_set]; exact HZ.out
      have HL : Hid ((zs.set k cN).length = k + 1) := hl'
      have hsg := hrow'.all
      clear hz hr1 hb1 hl'
      go_wp2_with (go_at_call 66; refine (trimmed_any (some ⟨w.heap.size, 0, none⟩) (k + 1) (k + 1) (zs.set k cN) _ HL.out (Nat.le_refl _) (by unfold maxLen; omega) hsg).mono ?_; rintro e w' ⟨rfl, rfl⟩)
      go_ret
      refine ⟨zs.set k cN, rfl, HL.out, hzd.set _ _ hc, ?_, hrow', hbel.setCell (Nat.le_refl _) _⟩
      have e1 := val_set_succ 4294967296 zs k cN (by have := HZ.out; omega)
      rw [List.take_of_length_le (by rw [HL.out]; exact Nat.le_refl _)] at e1
      have e2 := HV.out
      rw [List.take_of_length_le (l := xs) (by have := HN.out; omega)] at e2
      rw [e1, e2]
end Go.Proofs.Ytidpbdhhbeaijab
/- Contracts of strings.CutPrefix, arith.isPlain and arith.readDigits; they prove no statement of the seat. -/
namespace Go.Proofs.Ytidpbdhhbeaijab
open Go.RowKit

/-- A text's bytes, as numbers. -/
def bs (s : ByteArray) : List Nat := s.data.toList.map UInt8.toNat

theorem bs_length (s : ByteArray) : (bs s).length = s.size := by
  simp only [bs, List.length_map, Array.length_toList]; rfl
theorem bs_get (s : ByteArray) (k : Nat) (h : k < s.size) : (s[k]'h).toNat = (bs s).getD k 0 := by
  have h' : k < s.data.toList.length := by rw [Array.length_toList]; exact h
  rw [bs, List.getD_eq_getElem?_getD, List.getElem?_map, List.getElem?_eq_getElem h']
  rfl
theorem bs_inj {s t : ByteArray} (h : bs s = bs t) : s = t := by
  have h1 : s.data.toList = t.data.toList := by
    unfold bs at h
    exact List.map_inj_right (fun a b e => UInt8.toNat_inj.1 e) |>.1 h
  cases s; cases t
  congr 1
  exact Array.toList_inj.1 h1
theorem bs_lt (s : ByteArray) (i : Nat) : (bs s).getD i 0 < 256 := by
  rw [List.getD_eq_getElem?_getD]
  cases h : (bs s)[i]? with
  | none => simp
  | some y =>
    obtain ⟨a, _, rfl⟩ := List.mem_map.1 (List.mem_of_getElem? h)
    simpa using a.toNat_lt

theorem bs_extract (s : ByteArray) (a b : Nat) : bs (s.extract a b) = ((bs s).take b).drop a := by
  simp only [bs, ByteArray.data_extract, Array.toList_extract, List.extract_eq_take_drop, List.map_drop, List.map_take]
  rw [List.drop_take]
theorem bs_extract_from (s : ByteArray) (a : Nat) : bs (s.extract a s.size) = (bs s).drop a := by
  rw [bs_extract, ← bs_length, List.take_length]

/-- Digits alone, none ahead of others a nought. -/
def Plain (l : List Nat) : Prop := 0 < l.length ∧ ¬ (l.getD 0 0 = 48 ∧ 1 < l.length) ∧ ∀ i, i < l.length → 48 ≤ l.getD i 0 ∧ l.getD i 0 ≤ 57
def AllDig (l : List Nat) (k : Nat) : Prop := ∀ i, i < k → 48 ≤ l.getD i 0 ∧ l.getD i 0 ≤ 57

set_option maxHeartbeats 400000 in
theorem isPlain_yes (s : ByteArray) (w : World) (hl : s.size ≤ 10000) (hp : Plain (bs s)) :
    Calls Try.prog 72 #[.string s] w fun e w' => e = .returned (.bool true) ∧ w' = w := by
  have HP : Hid (Plain (bs s)) := hp
  obtain ⟨h1, h2, h3⟩ := hp
  rw [bs_length] at h1 h2 h3
  have hz : ((s.size : Int) == 0) = false := by rw [beq_eq_false_iff_ne]; omega
  have h0 := bs_get s 0 h1
  have hcase : ((((s[0]'h1).toNat : Int) == 48) = true ∧ ¬ 1 < s.size) ∨ (((s[0]'h1).toNat : Int) == 48) = false := by
    by_cases e : (s[0]'h1).toNat = 48
    · left; exact ⟨by simp [e], fun h => h2 ⟨h0 ▸ e, h⟩⟩
    · right; rw [beq_eq_false_iff_ne]; omega
  have HA : Hid (∀ i, i < s.size → 48 ≤ (bs s).getD i 0 ∧ (bs s).getD i 0 ≤ 57) := h3
  clear h0 h2 h3
  rcases hcase with ⟨hf, hs⟩ | hf
  all_goals
    go_enter Try.func72, Try.ntmps72
    go_wp2
    go_loop [19] (fun i => ∃ k : Nat, k ≤ s.size ∧ i = .int .i64 k) (fun i => s.size - (intOf i).toNat)
    case atStart => exact ⟨0, by omega, rfl⟩
    case round =>
      obtain ⟨k, hk, rfl⟩ := hrel
      by_cases hlt : k < s.size
      · have hx := bs_get s k hlt
        have ha := HA.out k hlt
        rw [← hx] at ha
        obtain ⟨ha1, ha2⟩ := ha
        clear hx
        go_wp2
        go_round
        case rel => exact ⟨k + 1, by omega, by go_num⟩
        case measure => simp [intOf]; omega
      · go_wp2
        go_ret
        exact ⟨rfl, rfl⟩
set_option maxHeartbeats 400000 in
theorem isPlain_no (s : ByteArray) (w : World) (hl : s.size ≤ 10000) (hp : ¬ Plain (bs s)) :
    Calls Try.prog 72 #[.string s] w fun e w' => e = .returned (.bool false) ∧ w' = w := by
  by_cases h1 : 0 < s.size
  · have hz : ((s.size : Int) == 0) = false := by rw [beq_eq_false_iff_ne]; omega
    have h0 := bs_get s 0 h1
    by_cases h2 : (s[0]'h1).toNat = 48 ∧ 1 < s.size
    · obtain ⟨e1, e2⟩ := h2
      have hf : (((s[0]'h1).toNat : Int) == 48) = true := by simp [e1]
      clear e1 h0 hp
      go_enter Try.func72, Try.ntmps72
      go_wp2
      go_ret
      exact ⟨rfl, rfl⟩
    · have hcase : ((((s[0]'h1).toNat : Int) == 48) = true ∧ ¬ 1 < s.size) ∨ (((s[0]'h1).toNat : Int) == 48) = false := by
        by_cases e : (s[0]'h1).toNat = 48
        · left; exact ⟨by simp [e], fun h => h2 ⟨e, h⟩⟩
        · right; rw [beq_eq_false_iff_ne]; omega
      have HA : Hid (¬ AllDig (bs s) s.size) := by
        intro h
        refine hp ⟨by rw [bs_length]; exact h1, ?_, by rw [bs_length]; exact h⟩
        rw [bs_length, ← h0]; exact h2
      clear h0 h2 hp
      rcases hcase with ⟨hf, hs⟩ | hf
      all_goals
        go_enter Try.func72, Try.ntmps72
        go_wp2
        go_loop [19] (fun i => ∃ k : Nat, k ≤ s.size ∧ i = .int .i64 k ∧ Hid (AllDig (bs s) k)) (fun i => s.size - (intOf i).toNat)
        case atStart => exact ⟨0, by omega, rfl, fun i hi => by omega⟩
        case round =>
          obtain ⟨k, hk, rfl, hAD⟩ := hrel
          by_cases hlt : k < s.size
          · have hx := bs_get s k hlt
            have HX : Hid ((s[k]'hlt).toNat = (bs s).getD k 0) := hx
            clear hx
            by_cases hd : 48 ≤ (s[k]'hlt).toNat ∧ (s[k]'hlt).toNat ≤ 57
            · obtain ⟨ha1, ha2⟩ := hd
              go_wp2
              go_round
              case rel =>
                refine ⟨k + 1, by omega, by go_num, fun i hi => ?_⟩
                by_cases e : i = k
                · subst e; rw [← HX.out]; exact ⟨ha1, ha2⟩
                · exact hAD.out i (by omega)
              case measure => simp [intOf]; omega
            · by_cases hd1 : 48 ≤ (s[k]'hlt).toNat
              · have hd2 : ¬ (s[k]'hlt).toNat ≤ 57 := fun h => hd ⟨hd1, h⟩
                clear hd
                go_wp2
                go_ret
                exact ⟨rfl, rfl⟩
              · clear hd
                go_wp2
                go_ret
                exact ⟨rfl, rfl⟩
          · have hk' : k = s.size := by omega
            exact absurd (hk' ▸ hAD.out) HA.out
  · have hs : s = ByteArray.empty := by
      apply bs_inj
      apply List.eq_nil_of_length_eq_zero
      rw [bs_length]; omega
    subst hs
    go_enter Try.func72, Try.ntmps72
    go_wp2
    go_ret
    exact ⟨rfl, rfl⟩

theorem toList_beq (a : ByteArray) (l : List UInt8) : (a.toList == l) = decide (bs a = l.map UInt8.toNat) := by
  rw [ByteArray.toList_eq, Bool.eq_iff_iff, beq_iff_eq, decide_eq_true_iff]
  constructor
  · intro h; rw [bs, h]
  · intro h; exact (List.map_inj_right (fun a b e => UInt8.toNat_inj.1 e)).1 h

theorem toList_beq' (a b : ByteArray) : (a.toList == b.toList) = decide (bs a = bs b) := by
  rw [toList_beq, ByteArray.toList_eq b]; rfl

theorem toList_one (s : ByteArray) (h : 1 ≤ s.size) : ((s.extract 0 1).toList == [45]) = ((bs s).getD 0 0 == 45) := by
  rw [toList_beq, bs_extract, List.drop_zero]
  have hl : 1 ≤ (bs s).length := by rw [bs_length]; exact h
  cases e : bs s with
  | nil => rw [e] at hl; simp at hl
  | cons x r => simp; rfl

set_option maxHeartbeats 400000 in
theorem cut_yes (s : ByteArray) (w : World) (hl : s.size ≤ 10000) (h0 : 1 ≤ s.size) (h1 : (bs s).getD 0 0 = 45) :
    Calls Try.prog 71 #[.string s, .string ⟨#[45]⟩] w fun e w' => e = .returned (.tuple #[.string (s.extract 1 s.size), .bool true]) ∧ w' = w := by
  have h2 : ((s.extract 0 1).toList == [45]) = true := by rw [toList_one s h0, h1]; rfl
  clear h1
  go_enter Try.func71, Try.ntmps71
  go_wp2
  go_ret2
  exact ⟨rfl, rfl⟩

set_option maxHeartbeats 400000 in
theorem cut_no (s : ByteArray) (w : World) (hl : s.size ≤ 10000) (h1 : ¬ (1 ≤ s.size ∧ (bs s).getD 0 0 = 45)) :
    Calls Try.prog 71 #[.string s, .string ⟨#[45]⟩] w fun e w' => e = .returned (.tuple #[.string s, .bool false]) ∧ w' = w := by
  by_cases h0 : 1 ≤ s.size
  · have h2 : ((s.extract 0 1).toList == [45]) = false := by
      rw [toList_one s h0, beq_eq_false_iff_ne]; exact fun e => h1 ⟨h0, e⟩
    clear h1
    go_enter Try.func71, Try.ntmps71
    go_wp2
    go_ret2
    exact ⟨rfl, rfl⟩
  · clear h1
    go_enter Try.func71, Try.ntmps71
    go_wp2
    go_ret2
    exact ⟨rfl, rfl⟩

/-- The number that decimal digits write, the highest first. -/
def dec (l : List Nat) : Nat := l.foldl (fun a c => a * 10 + (c - 48)) 0
theorem dec_snoc (l : List Nat) (c : Nat) : dec (l ++ [c]) = dec l * 10 + (c - 48) := by simp [dec]
theorem pow10_step (j : Nat) (h : j ≤ 8) : (10 ^ j * 10 = 1000000000 ∧ j = 8) ∨ (10 ^ j * 10 ≤ 100000000 ∧ j < 8) := by
  have h' : ∀ j : Fin 9, (10 ^ j.val * 10 = 1000000000 ∧ j.val = 8) ∨ (10 ^ j.val * 10 ≤ 100000000 ∧ j.val < 8) := by decide
  exact h' ⟨j, by omega⟩
theorem dec_step (L p c d D : Nat) (h : L * p + c = D) : L * (p * 10) + (c * 10 + d) = D * 10 + d := by
  subst h
  rw [Nat.add_mul, ← Nat.mul_assoc]; omega
end Go.Proofs.Ytidpbdhhbeaijab
/- Contracts of arith.readDigits, fitting, Parse; they prove no statement of the seat. -/
namespace Go.Proofs.Ytidpbdhhbeaijab
open Go.RowKit

theorem trimZ_seg {k : IntKind} {t : TypeId} {w : World} {g : Nat} {zs : List Nat} (h : Row k t w g zs) : Seg k w (some ⟨g, 0, none⟩) (trimZ zs) := by
  have := h.first (trimZ zs).length (trimZ_length_le zs)
  rwa [← trimZ_take] at this

theorem scaleLimbs_int (ao : Option Addr) (n cap f m : Nat) (F M : Int) (hF : F = (f : Int)) (hM : M = (m : Int)) (xs : List Nat) (w : World) (hn : xs.length = n) (h1 : n ≤ 9000) (hs : Seg .u32 w ao xs) (hd : Digs 4294967296 xs) (hf : f < 4294967296) (hm : m < 4294967296) :
    Calls Try.prog 89 #[.slice ao n cap, .int .u32 F, .int .u32 M] w fun e w' => ∃ zs, e = .returned (.slice (some ⟨w.heap.size, 0, none⟩) (trimZ zs).length (n + 1)) ∧ zs.length = n + 1 ∧ Digs 4294967296 zs ∧ val 4294967296 zs = val 4294967296 xs * f + m ∧ Row .u32 91 w' w.heap.size zs ∧ Below w.heap.size w w' := by
  subst hF; subst hM
  exact scaleLimbs_any ao n cap f m xs w hn h1 hs hd hf hm

set_option maxHeartbeats 1600000 in
theorem readDigits_any (s : ByteArray) (w : World) (hl : s.size ≤ 1000) (hp : AllDig (bs s) s.size) :
    Calls Try.prog 73 #[.string s] w fun e w' => ∃ ao m cap ls, e = .returned (.slice ao m cap) ∧ ls.length = m ∧ m ≤ cap ∧ cap ≤ 2000 ∧ Seg .u32 w' ao ls ∧ Digs 4294967296 ls ∧ val 4294967296 ls = dec (bs s) ∧ Below w.heap.size w w' := by
  have HP : Hid (AllDig (bs s) s.size) := hp
  clear hp
  go_enter Try.func73, Try.ntmps73
  go_wp2
  go_loopw [3, 4, 5, 9] (fun v c p i wr => ∃ k cN pN j m cap : Nat, ∃ ao ls, k ≤ s.size ∧ i = .int .i64 k ∧ c = .int .u32 cN ∧ p = .int .u32 pN ∧ v = .slice ao m cap ∧ Hid (pN = 10 ^ j) ∧ j ≤ 8 ∧ cN < pN ∧ Hid (k = s.size → j = 0) ∧ Hid (ls.length = m) ∧ m ≤ k ∧ m ≤ cap ∧ cap ≤ 1 + k ∧
      Seg .u32 wr ao ls ∧ Digs 4294967296 ls ∧ Hid (val 4294967296 ls * pN + cN = dec ((bs s).take k)) ∧ Below w.heap.size w wr) (fun _ _ _ i _ => s.size - (intOf i).toNat)
  case atStart => exact ⟨0, 0, 1, 0, 0, 0, none, [], Nat.zero_le _, rfl, rfl, rfl, rfl, (rfl : _ = _), by omega, by decide, (fun _ => rfl : _ → _), (rfl : _ = _), by omega, by omega, by omega, Seg.nil _ _ _, Digs.nil _, (by simp [val, dec] : _ = _), Below.refl _ _⟩
  case round =>
    obtain ⟨k, cN, pN, j, m, cap, ao, ls, hk, rfl, rfl, rfl, rfl, HPJ, hj, hcN, HJ, HL, hmk, hmc, hck, hseg, hdl, HV, hbel⟩ := hrel
    have hpj := pow10_step j hj
    rw [← HPJ.out] at hpj
    have HPP : Hid ((pN * 10 = 1000000000 ∧ j = 8) ∨ (pN * 10 ≤ 100000000 ∧ j < 8)) := hpj
    have hpN : pN ≤ 100000000 := by omega
    clear hpj
    by_cases hlt : k < s.size
    · have hx := bs_get s k hlt
      have hdg := HP.out k hlt
      rw [← hx] at hdg
      obtain ⟨hd1, hd2⟩ := hdg
      have HX : Hid ((s[k]'hlt).toNat = (bs s).getD k 0) := hx
      clear hx
      have HD : Hid (dec ((bs s).take (k + 1)) = dec ((bs s).take k) * 10 + ((s[k]'hlt).toNat - 48)) := by
        show _ = _
        rw [take_snoc _ _ (by rw [bs_length]; exact hlt), dec_snoc, HX.out]
      have hsz : 1 ≤ s.size := by omega
      by_cases hflush : pN * 10 = 1000000000 ∨ k + 1 = s.size
      · have hcase : (((pN : Int) * 10 == 1000000000) = true) ∨ ((((pN : Int) * 10 == 1000000000) = false) ∧ ((k : Int) == (s.size : Int) - 1) = true) := by
          by_cases e : pN * 10 = 1000000000
          · left; rw [beq_iff_eq]; omega
          · right; exact ⟨by rw [beq_eq_false_iff_ne]; omega, by rw [beq_iff_eq]; omega⟩
        clear hflush
        rcases hcase with g1 | ⟨g1, g2⟩
        all_goals
          go_wp2_with (go_at_call 89; refine (scaleLimbs_int ao m cap (pN * 10) (cN * 10 + ((s[k]'hlt).toNat - 48)) _ _ (by omega) (by omega) ls _ HL.out (by omega) hseg hdl (by omega) (by omega)).mono ?_; rintro e w2 ⟨zs, rfl, hzl, hzd, hzv, hzr, hzb⟩)
          go_roundw
          case rel =>
            refine ⟨k + 1, 0, 1, 0, (trimZ zs).length, m + 1, _, trimZ zs, by omega, by go_num, rfl, rfl, rfl, (rfl : _ = _), by omega, by omega, (fun _ => rfl : _ → _), (rfl : _ = _), ?_, ?_, by omega, trimZ_seg hzr, hzd.trimZ, ?_, hbel.trans (hzb.mono hbel.size)⟩
            · have := trimZ_length_le zs; omega
            · have := trimZ_length_le zs; omega
            · show _ = _
              rw [HD.out, val_trimZ, hzv, Nat.mul_one, Nat.add_zero]
              exact dec_step _ _ _ _ _ HV.out
          case measure => simp [intOf]; omega
      · have g1 : ((pN : Int) * 10 == 1000000000) = false := by rw [beq_eq_false_iff_ne]; omega
        have g2 : ((k : Int) == (s.size : Int) - 1) = false := by rw [beq_eq_false_iff_ne]; omega
        have g3 : pN * 10 ≤ 100000000 ∧ j < 8 := by
          rcases HPP.out with h | h
          · exact absurd (Or.inl h.1) hflush
          · exact h
        obtain ⟨g4, g5⟩ := g3
        clear hflush
        go_wp2
        go_roundw
        case rel =>
          refine ⟨k + 1, cN * 10 + ((s[k]'hlt).toNat - 48), pN * 10, j + 1, m, cap, ao, ls, by omega, by go_num, ?_, ?_, rfl, ?_, by omega, by omega, ?_, HL, by omega, by omega, by omega, hseg, hdl, ?_, hbel⟩
          · congr 1; omega
          · congr 1
          · show _ = _
            rw [HPJ.out, Nat.pow_succ]
          · intro h; rw [beq_eq_false_iff_ne] at g2; omega
          · show _ = _
            rw [HD.out]
            exact dec_step _ _ _ _ _ HV.out
        case measure => simp [intOf]; omega
    · have hks : k = s.size := by omega
      go_wp2
      go_ret
      refine ⟨ao, m, cap, ls, rfl, HL.out, hmc, by omega, hseg, hdl, ?_, hbel⟩
      have h0 := HJ.out hks
      have h1 := HPJ.out
      rw [h0] at h1
      have h2 := HV.out
      rw [List.take_of_length_le (by rw [bs_length]; omega)] at h2
      rw [← h2]
      have : pN = 1 := by simpa using h1
      subst this
      omega
end Go.Proofs.Ytidpbdhhbeaijab
