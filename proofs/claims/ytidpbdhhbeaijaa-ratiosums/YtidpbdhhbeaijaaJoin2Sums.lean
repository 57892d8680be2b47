/- Joined: Bits, Sign, Scale, Text1: words and contracts; no statement of the seat is proved here. -/
import Derived.Test.YtidpbdhhbeaijaaJoin1Sums
import Derived.Lib.BitFns
/- Contracts of math/bits' functions (Add32, Sub32, Len32, LeadingZeros32) and of arith's splitWord, joinWord; they prove no statement of the seat. -/
namespace Go.Proofs.Ytidpbdhhbeaijaa
open Go.RowKit

theorem testBit31 (n : Nat) (h : n < 4294967296) : n.testBit 31 = decide (2147483648 ≤ n) := by
  rw [Nat.testBit_eq_decide_div_mod_eq]
  congr 1
  apply propext
  constructor <;> intro h' <;> omega

theorem div31 (n : Nat) (h : n < 4294967296) : n / 2147483648 = (n.testBit 31).toNat := by
  rw [testBit31 n h]
  by_cases h' : 2147483648 ≤ n
  · simp [h']; omega
  · simp [h']; omega

/-- The borrow as the text has it, and as it is. -/
theorem borrow_eq (x y b : Nat) (hx : x < 4294967296) (hy : y < 4294967296) (hb : b ≤ 1) :
    (((4294967295 ^^^ x) &&& y) ||| ((4294967295 ^^^ (x ^^^ y)) &&& ((x + 4294967296 - y - b) % 4294967296))) / 2147483648 = if x < y + b then 1 else 0 := by
  have hd : (x + 4294967296 - y - b) % 4294967296 < 4294967296 := Nat.mod_lt _ (by decide)
  have hM : (4294967295 : Nat) < 2 ^ 32 := by decide
  have hx' : x < 2 ^ 32 := hx
  have hy' : y < 2 ^ 32 := hy
  have hd' : (x + 4294967296 - y - b) % 4294967296 < 2 ^ 32 := hd
  have l1 : ((4294967295 ^^^ x) &&& y) < 2 ^ 32 := Nat.and_lt_two_pow _ hy'
  have l2 : ((4294967295 ^^^ (x ^^^ y)) &&& ((x + 4294967296 - y - b) % 4294967296)) < 2 ^ 32 := Nat.and_lt_two_pow _ hd'
  have l3 := Nat.or_lt_two_pow l1 l2
  rw [div31 _ l3]
  simp only [Nat.testBit_or, Nat.testBit_and, Nat.testBit_xor, testBit31 x hx, testBit31 y hy, testBit31 _ hd, testBit31 4294967295 hM]
  by_cases c1 : 2147483648 ≤ x <;> by_cases c2 : 2147483648 ≤ y <;> by_cases c3 : 2147483648 ≤ (x + 4294967296 - y - b) % 4294967296 <;> by_cases c4 : x < y + b <;> simp [c1, c2, c3, c4] <;> omega

theorem sub32_num (x y b : Nat) (hx : x < 4294967296) (hy : y < 4294967296) (hb : b ≤ 1) :
    (bits BinOp.or IntKind.u32 (bits BinOp.and IntKind.u32 (bits BinOp.xor IntKind.u32 (if IntKind.u32.signed = true then -1 else IntKind.u32.max) (x : Int)) (y : Int))
      (bits BinOp.and IntKind.u32 (bits BinOp.xor IntKind.u32 (if IntKind.u32.signed = true then -1 else IntKind.u32.max) (bits BinOp.xor IntKind.u32 (x : Int) (y : Int))) (((x : Int) - y - b) % 4294967296))) / 2147483648
      = ((if x < y + b then 1 else 0 : Nat) : Int) := by
  have e0 : (if IntKind.u32.signed = true then -1 else IntKind.u32.max) = ((4294967295 : Nat) : Int) := by decide
  have e1 : ((x : Int) - y - b) % 4294967296 = (((x + 4294967296 - y - b) % 4294967296 : Nat) : Int) := by omega
  have hM : (4294967295 : Nat) < 2 ^ 32 := by decide
  have l1 : (4294967295 ^^^ x) < 2 ^ 32 := Nat.xor_lt_two_pow hM hx
  have l2 : (x ^^^ y) < 2 ^ 32 := Nat.xor_lt_two_pow hx hy
  have l3 : (4294967295 ^^^ (x ^^^ y)) < 2 ^ 32 := Nat.xor_lt_two_pow hM l2
  have hd : (x + 4294967296 - y - b) % 4294967296 < 2 ^ 32 := Nat.mod_lt _ (by decide)
  have l4 : ((4294967295 ^^^ x) &&& y) < 2 ^ 32 := Nat.and_lt_two_pow _ hy
  have l5 : ((4294967295 ^^^ (x ^^^ y)) &&& ((x + 4294967296 - y - b) % 4294967296)) < 2 ^ 32 := Nat.and_lt_two_pow _ hd
  rw [e0, e1, u32_xor_nat _ _ hM hx, u32_and_nat _ _ l1 hy, u32_xor_nat _ _ hx hy, u32_xor_nat _ _ hM l2, u32_and_nat _ _ l3 hd,
    u32_or_nat _ _ l4 l5]
  rw [← borrow_eq x y b hx hy hb]
  rfl

set_option maxRecDepth 100000 in
set_option maxHeartbeats 400000 in
theorem sub32_any (x y b : Nat) (w : World) (hx : (x : Int) < 4294967296) (hy : (y : Int) < 4294967296) (hb : b ≤ 1) :
    Calls Try.prog 96 #[.int .u32 x, .int .u32 y, .int .u32 b] w fun e w' =>
      e = .returned (.tuple #[.int .u32 (((x + 4294967296 - y - b) % 4294967296 : Nat) : Int), .int .u32 ((if x < y + b then 1 else 0 : Nat) : Int)]) ∧ w' = w := by
  have H := sub32_num x y b (by omega) (by omega) hb
  have H1 : (((x : Int) - y) % 4294967296 - b) % 4294967296 = (((x + 4294967296 - y - b) % 4294967296 : Nat) : Int) := by omega
  have HH : Hid (_ ∧ _) := ⟨H, H1⟩
  clear H H1
  go_enter Try.func96, Try.ntmps96
  iterate 81 go_step
  go_ret2
  refine ⟨?_, rfl⟩
  rw [← HH.out.1, ← HH.out.2]
  rfl

set_option maxHeartbeats 400000 in
theorem add32_any (x y b : Nat) (w : World) (hx : (x : Int) < 4294967296) (hy : (y : Int) < 4294967296) (hb : b ≤ 1) :
    Calls Try.prog 114 #[.int .u32 x, .int .u32 y, .int .u32 b] w fun e w' => e = .returned (.tuple #[.int .u32 (((x + y + b) % 4294967296 : Nat) : Int), .int .u32 (((x + y + b) / 4294967296 : Nat) : Int)]) ∧ w' = w := by
  go_enter Try.func114, Try.ntmps114
  go_wp2
  go_ret2
  exact ⟨rfl, rfl⟩

theorem Try.underlying9 : Try.prog.underlying 9 = some .string := by kernel_rfl

theorem wpList_index_len8 {P : Program} {w : World} {ops : Array Oper} {rest : List Oper} {o : Oper} {a : Act} {Q : Exit → Act → World → Prop} (hg : o.guard = none) (s i : Operand) (t : TypeId) (hop : o.op = Op.index t s i)
    (h : P.underlying t = some .string) (S : ByteArray) (hs : a.eval s = .string S) (hS : S = Lib.len8tab) (k : IntKind) (n : Int) (hi : a.eval i = .int k n) (h0 : 0 ≤ n) (h1 : n ≤ 255)
    (hK : wpList P ops Q rest (a.put o.dst (.int .u8 (Lib.len8 n))) w) : wpList P ops Q (o :: rest) a w := by
  subst hS
  refine wpList_plain hg fun K hK' => ?_
  have hrun := Lib.run_index_len8tab (P := P) w t k n h h0 h1
  unfold Oper.wp
  simp [execOp, hop, hs, hi, hrun, Result.andThen]
  exact hK' _ _ hK

/-- The table of lengths, as the translation writes it, under the library's name. -/
theorem fold8 : ({ data := (([0, 1, 2, 2, 3, 3, 3, 3, 4, 4, 4, 4, 4, 4, 4, 4, 5, 5, 5, 5, 5, 5, 5, 5, 5, 5, 5, 5, 5, 5, 5, 5, 6, 6, 6, 6, 6, 6, 6, 6, 6, 6, 6, 6, 6, 6, 6, 6, 6, 6, 6, 6, 6, 6, 6, 6, 6, 6, 6, 6, 6, 6, 6, 6].append [7, 7, 7, 7, 7, 7, 7, 7, 7, 7, 7, 7, 7, 7, 7, 7, 7, 7, 7, 7, 7, 7, 7, 7, 7, 7, 7, 7, 7, 7, 7, 7, 7, 7, 7, 7, 7, 7, 7, 7, 7, 7, 7, 7, 7, 7, 7, 7, 7, 7, 7, 7, 7, 7, 7, 7, 7, 7, 7, 7, 7, 7, 7, 7]).append ([8, 8, 8, 8, 8, 8, 8, 8, 8, 8, 8, 8, 8, 8, 8, 8, 8, 8, 8, 8, 8, 8, 8, 8, 8, 8, 8, 8, 8, 8, 8, 8, 8, 8, 8, 8, 8, 8, 8, 8, 8, 8, 8, 8, 8, 8, 8, 8, 8, 8, 8, 8, 8, 8, 8, 8, 8, 8, 8, 8, 8, 8, 8, 8].append [8, 8, 8, 8, 8, 8, 8, 8, 8, 8, 8, 8, 8, 8, 8, 8, 8, 8, 8, 8, 8, 8, 8, 8, 8, 8, 8, 8, 8, 8, 8, 8, 8, 8, 8, 8, 8, 8, 8, 8, 8, 8, 8, 8, 8, 8, 8, 8, 8, 8, 8, 8, 8, 8, 8, 8, 8, 8, 8, 8, 8, 8, 8, 8])).toArray } : ByteArray) = Lib.len8tab := by kernel_rfl

set_option maxRecDepth 100000 in
set_option maxHeartbeats 400000 in
theorem len32_any (x : Int) (w : World) (h0 : 0 ≤ x) (h1 : x ≤ 4294967295) :
    Calls Try.prog 105 #[.int .u32 x] w fun e w' => e = .returned (.int .i64 (Lib.bitLen x.toNat)) ∧ w' = w := by
  go_enter Try.func105, Try.ntmps105
  go_wp2_with (refine wpList_index_len8 rfl _ _ 9 rfl Try.underlying9 _ rfl fold8 _ _ rfl (by omega) (by omega) ?_)
  all_goals (go_ret; refine ⟨congrArg Ending.returned (congrArg (Value.int IntKind.i64) ?_), rfl⟩)
  all_goals first
    | (rw [Lib.len8_of (x / 65536 / 256) (by omega) (by omega)]
       have e : (x / 65536 / 256).toNat = x.toNat / 16777216 := by omega
       have l := Lib.bitLen_le8' (x / 65536 / 256) (by omega) (by omega)
       have s := Lib.bitLen_shift24 x.toNat (by omega) (by omega)
       rw [e] at l ⊢
       unfold wrap64
       omega)
    | (rw [Lib.len8_of (x / 65536) (by omega) (by omega)]
       have e : (x / 65536).toNat = x.toNat / 65536 := by omega
       have l := Lib.bitLen_le8' (x / 65536) (by omega) (by omega)
       have s := Lib.bitLen_shift16 x.toNat (by omega) (by omega)
       rw [e] at l ⊢
       unfold wrap64
       omega)
    | (rw [Lib.len8_of (x / 256) (by omega) (by omega)]
       have e : (x / 256).toNat = x.toNat / 256 := by omega
       have l := Lib.bitLen_le8' (x / 256) (by omega) (by omega)
       have s := Lib.bitLen_shift8 x.toNat (by omega) (by omega)
       rw [e] at l ⊢
       unfold wrap64
       omega)
    | (rw [Lib.len8_of x (by omega) (by omega)]
       have l := Lib.bitLen_le8' x (by omega) (by omega)
       unfold wrap64
       omega)

set_option maxHeartbeats 400000 in
theorem splitWord_any (n : Nat) (w : World) (hn : (n : Int) < 18446744073709551616) :
    Calls Try.prog 61 #[.int .u64 n] w fun e w' => e = .returned (.slice (some ⟨w.heap.size, 0, none⟩) (trimZ [n % 4294967296, n / 4294967296]).length 2) ∧ Row .u32 112 w' w.heap.size [n % 4294967296, n / 4294967296] ∧ Below w.heap.size w w' ∧ w'.heap.size = w.heap.size + 1 := by
  go_enter Try.func61, Try.ntmps61
  go_wp2_with fail
  have hr := Row.new w .u32 112 [n % 4294967296, n / 4294967296]
  refine (trimmed_any (some ⟨w.heap.size, 0, none⟩) 2 2 [n % 4294967296, n / 4294967296] _ rfl (Nat.le_refl _) (by unfold maxLen; omega) hr.all).mono ?_
  rintro e w' ⟨rfl, rfl⟩
  go_wp2
  go_ret
  refine ⟨rfl, hr, ?_, ?_⟩
  · exact (Below.refl _ _).alloc (Nat.le_refl _) _
  · simp

theorem or_join (a b : Nat) (ha : a < 4294967296) (hb : b < 4294967296) : bits BinOp.or IntKind.u64 (a : Int) (IntKind.u64.wrap (IntKind.u64.wrap (b : Int) * 2 ^ (1 * 32))) = ((a + 4294967296 * b : Nat) : Int) := by
  have e1 : IntKind.u64.wrap (IntKind.u64.wrap (b : Int) * 2 ^ (1 * 32)) = ((b * 4294967296 : Nat) : Int) := by
    rw [IntKind.wrap_u64, IntKind.wrap_u64]; omega
  rw [e1, u64_or_nat _ _ (by omega) (by omega)]
  congr 1
  have := Nat.shiftLeft_add_eq_or_of_lt (b := a) (i := 32) ha b
  rw [Nat.shiftLeft_eq] at this
  rw [Nat.or_comm, ← show b * 2 ^ 32 = b * 4294967296 from rfl, ← this]
  omega

theorem or_none (b : Nat) (hb : b < 4294967296) : bits BinOp.or IntKind.u64 ((0 : Nat) : Int) (IntKind.u64.wrap (IntKind.u64.wrap (b : Int) * 2 ^ (0 * 32))) = (b : Int) := by
  have e1 : IntKind.u64.wrap (IntKind.u64.wrap (b : Int) * 2 ^ (0 * 32)) = (b : Int) := by
    rw [IntKind.wrap_u64, IntKind.wrap_u64]; omega
  rw [e1, u64_or_nat _ _ (by omega) (by omega)]
  simp

theorem join_step (xs : List Nat) (k : Nat) (hl : xs.length ≤ 2) (h0 : k < xs.length) (hd : Digs 4294967296 xs) :
    bits BinOp.or IntKind.u64 ((val 4294967296 (xs.take k) : Nat) : Int) (IntKind.u64.wrap (IntKind.u64.wrap ((xs[k] : Nat) : Int) * 2 ^ (k * 32))) = ((val 4294967296 (xs.take (k + 1)) : Nat) : Int) := by
  have hk := hd.get (by decide) k
  rw [List.getElem?_eq_getElem h0] at hk
  simp only [Option.getD_some] at hk
  have hv : val 4294967296 (xs.take (k + 1)) = val 4294967296 (xs.take k) + 4294967296 ^ k * xs[k] := by
    rw [val_take_succ _ _ _ h0, List.getD_eq_getElem?_getD, List.getElem?_eq_getElem h0]; rfl
  rw [hv]
  have hc : k = 0 ∨ k = 1 := by omega
  rcases hc with rfl | rfl
  · simp only [List.take_zero, val_nil]
    rw [or_none _ hk]
    simp
  · have h1 := val_lt (hd.take 1)
    rw [List.length_take, Nat.min_eq_left (by omega)] at h1
    rw [or_join _ _ (by simpa using h1) hk]

set_option maxHeartbeats 400000 in
theorem joinWord_any (ao : Option Addr) (n cap : Nat) (xs : List Nat) (w : World) (hn : xs.length = n) (h1 : n ≤ 2) (hs : Seg .u32 w ao xs) (hd : Digs 4294967296 xs) :
    Calls Try.prog 63 #[.slice ao n cap] w fun e w' => e = .returned (.int .u64 (val 4294967296 xs)) ∧ w' = w := by
  subst hn
  go_enter Try.func63, Try.ntmps63
  go_wp2
  go_loop [3, 8] (fun v i => ∃ k : Nat, k ≤ xs.length ∧ i = .int .i64 k ∧ v = .int .u64 (val 4294967296 (xs.take k))) (fun v i => 2 - (intOf i).toNat)
  case atStart => exact ⟨0, by omega, rfl, rfl⟩
  case round =>
    obtain ⟨k, hk, rfl, rfl⟩ := hrel
    by_cases h0 : k < xs.length
    · obtain ⟨b, off, rfl, hc⟩ := hs.open k h0
      have hcell := hc k h0
      clear hc
      go_wp2
      go_round
      case rel => exact ⟨k + 1, by omega, by go_num, by rw [← join_step xs k h1 h0 hd]⟩
      case measure => simp [intOf]; omega
    · go_wp2
      go_ret
      refine ⟨?_, rfl⟩
      rw [List.take_of_length_le (by omega)]
      rfl
end Go.Proofs.Ytidpbdhhbeaijaa
/- Contracts of arith's bitLength, Bits, Sign, signed, fitting, From, Small, Neg, Abs, cmpLimbs, Cmp; they prove no statement of the seat. -/
namespace Go.Proofs.Ytidpbdhhbeaijaa
open Go.RowKit

theorem bitLen_bounds (x : Nat) (h0 : x ≠ 0) (h : x < 2 ^ 64) : 2 ^ (Lib.bitLen x - 1) ≤ x ∧ x < 2 ^ Lib.bitLen x ∧ 0 < Lib.bitLen x := by
  induction x using Nat.strongRecOn with
  | ind x ih =>
    rw [Lib.bitLen_half x h0 h]
    by_cases h1 : x = 1
    · subst h1; decide
    · obtain ⟨a, b, c⟩ := ih (x / 2) (by omega) (by omega) (by omega)
      have e : 1 + Lib.bitLen (x / 2) - 1 = (Lib.bitLen (x / 2) - 1) + 1 := by omega
      rw [e, Nat.pow_succ, Nat.add_comm 1, Nat.pow_succ]
      omega

/-- How many bits the number of limbs has. -/
def blen (xs : List Nat) : Nat := if xs.length = 0 then 0 else (xs.length - 1) * 32 + Lib.bitLen (xs.getD (xs.length - 1) 0)

theorem blen_bounds {xs : List Nat} (hd : Digs 4294967296 xs) (hn : Norm xs) (hne : 0 < xs.length) : 2 ^ (blen xs - 1) ≤ val 4294967296 xs ∧ val 4294967296 xs < 2 ^ blen xs ∧ 0 < blen xs := by
  have ht := hn.last hne
  have hlt := hd.getD (by decide) (xs.length - 1)
  obtain ⟨a, b, c⟩ := bitLen_bounds _ ht (by omega)
  have e1 : val 4294967296 xs = val 4294967296 (xs.take (xs.length - 1)) + 4294967296 ^ (xs.length - 1) * xs.getD (xs.length - 1) 0 := by
    have := val_take_succ 4294967296 xs (xs.length - 1) (by omega)
    rwa [show xs.length - 1 + 1 = xs.length by omega, List.take_length] at this
  have e2 := val_lt (hd.take (xs.length - 1))
  rw [List.length_take, Nat.min_eq_left (by omega)] at e2
  have e3 : (4294967296 : Nat) ^ (xs.length - 1) = 2 ^ ((xs.length - 1) * 32) := by
    rw [Nat.mul_comm, Nat.pow_mul]
  rw [e3] at e1 e2
  unfold blen
  rw [if_neg (by omega)]
  generalize xs.getD (xs.length - 1) 0 = t at *
  generalize (xs.length - 1) * 32 = s at *
  generalize val 4294967296 (xs.take (xs.length - 1)) = r at *
  refine ⟨?_, ?_, by omega⟩
  · rw [show s + Lib.bitLen t - 1 = s + (Lib.bitLen t - 1) by omega, Nat.pow_add, e1]
    exact Nat.le_trans (Nat.mul_le_mul_left _ a) (Nat.le_add_left _ _)
  · rw [Nat.pow_add, e1]
    have : 2 ^ s * (t + 1) ≤ 2 ^ s * 2 ^ Lib.bitLen t := Nat.mul_le_mul_left _ b
    rw [Nat.mul_add, Nat.mul_one] at this
    omega

theorem blen_le_iff {xs : List Nat} (hd : Digs 4294967296 xs) (hn : Norm xs) (k : Nat) : blen xs ≤ k ↔ val 4294967296 xs < 2 ^ k := by
  by_cases hne : 0 < xs.length
  · obtain ⟨a, b, c⟩ := blen_bounds hd hn hne
    constructor
    · intro h; exact Nat.lt_of_lt_of_le b (Nat.pow_le_pow_right (by decide) h)
    · intro h
      rcases Nat.lt_or_ge k (blen xs) with h' | h'
      · have : 2 ^ k ≤ 2 ^ (blen xs - 1) := Nat.pow_le_pow_right (by decide) (by omega)
        omega
      · exact h'
  · have : xs = [] := List.eq_nil_of_length_eq_zero (by omega)
    subst this
    simp [blen, val]
    exact Nat.pow_pos (by decide)

set_option maxHeartbeats 400000 in
theorem bitLength_any (ao : Option Addr) (n cap : Nat) (xs : List Nat) (w : World) (hn : xs.length = n) (h1 : n ≤ 10000) (hs : Seg .u32 w ao xs) (hd : Digs 4294967296 xs) :
    Calls Try.prog 101 #[.slice ao n cap] w fun e w' => e = .returned (.int .i64 (blen xs)) ∧ w' = w := by
  subst hn
  by_cases h0 : 0 < xs.length
  · obtain ⟨b, off, rfl, hc⟩ := hs.open 0 h0
    have hcell := hc (xs.length - 1) (by omega)
    have hlt := hd.get (by decide) (xs.length - 1)
    have hz : ((xs.length : Int) == 0) = false := by rw [beq_eq_false_iff_ne]; omega
    clear hc
    have HF : Hid (blen xs = (xs.length - 1) * 32 + Lib.bitLen (xs[xs.length - 1]?.getD 0)) := by
      show blen xs = _
      unfold blen; rw [if_neg (by omega), List.getD_eq_getElem?_getD]
    have hb8 := Lib.bitLen_le (xs[xs.length - 1]?.getD 0) 32 (by decide) hlt
    go_enter Try.func101, Try.ntmps101
    go_wp2_with (go_at_call 105; refine (len32_any _ _ (by omega) (by omega)).mono ?_; rintro e w' ⟨rfl, rfl⟩)
    go_ret
    refine ⟨?_, rfl⟩
    rw [HF.out]
    refine congrArg Ending.returned (congrArg (Value.int IntKind.i64) ?_)
    omega
  · have hx : xs = [] := List.eq_nil_of_length_eq_zero (by omega)
    subst hx
    go_enter Try.func101, Try.ntmps101
    go_wp2
    go_ret
    exact ⟨rfl, rfl⟩

/-- A number's size and sign. -/
def sv (neg : Bool) (n : Nat) : Int := if neg then -(n : Int) else n
/-- What no number reaches. -/
def lim : Nat := 4294967296 ^ 32

/-- An arith.Int: its sign and its limbs. -/
def IntV (w : World) (v : Value) (neg : Bool) (xs : List Nat) : Prop :=
  ∃ ao cap, v = .agg #[.bool neg, .slice ao xs.length cap] ∧ xs.length ≤ cap ∧ cap ≤ 10000 ∧ Seg .u32 w ao xs ∧ Digs 4294967296 xs ∧ Norm xs ∧ (xs.length = 0 → neg = false)

theorem IntV.below {w w' : World} {v : Value} {neg : Bool} {xs : List Nat} (h : IntV w v neg xs) (hb : Below w.heap.size w w') : IntV w' v neg xs := by
  obtain ⟨ao, cap, h1, h2, h3, h4, h5⟩ := h
  exact ⟨ao, cap, h1, h2, h3, h4.below hb, h5⟩

theorem IntV.store2 {w : World} {v : Value} {neg : Bool} {xs : List Nat} (h : IntV w v neg xs) {t : TypeId} {b : Nat} {x : Bool} {a : Option Addr} {n c : Nat} (hB : Blk t w b #[.bool x, .slice a n c]) (y : Bool) (a' : Option Addr) (n' c' : Nat) :
    IntV ((w.setCell ⟨b, 0, none⟩ (.bool y)).setCell ⟨b, 1, none⟩ (.slice a' n' c')) v neg xs := by
  obtain ⟨ao, cap, h1, h2, h3, h4, h5⟩ := h
  exact ⟨ao, cap, h1, h2, h3, h4.store2 hB y a' n' c', h5⟩

theorem IntV.zero (w : World) : IntV w (.agg #[.bool false, .slice none 0 0]) false [] :=
  ⟨none, 0, rfl, Nat.le_refl _, by omega, Seg.nil _ _ _, Digs.nil _, Norm.nil, fun _ => rfl⟩

/-- An arith.Int: its value. -/
def AInt (w : World) (v : Value) (z : Int) : Prop := ∃ neg xs, IntV w v neg xs ∧ z = sv neg (val 4294967296 xs) ∧ val 4294967296 xs < lim

theorem AInt.below {w w' : World} {v : Value} {z : Int} (h : AInt w v z) (hb : Below w.heap.size w w') : AInt w' v z := by
  obtain ⟨neg, xs, h1, h2⟩ := h
  exact ⟨neg, xs, h1.below hb, h2⟩

theorem AInt.store2 {w : World} {v : Value} {z : Int} (h : AInt w v z) {t : TypeId} {b : Nat} {x : Bool} {a : Option Addr} {n c : Nat} (hB : Blk t w b #[.bool x, .slice a n c]) (y : Bool) (a' : Option Addr) (n' c' : Nat) :
    AInt ((w.setCell ⟨b, 0, none⟩ (.bool y)).setCell ⟨b, 1, none⟩ (.slice a' n' c')) v z := by
  obtain ⟨neg, xs, h1, h2⟩ := h
  exact ⟨neg, xs, h1.store2 hB y a' n' c', h2⟩

theorem lim_pos : 0 < lim := Nat.pow_pos (by decide)
theorem pow_aux (k a b B : Nat) (hk : k = a * b) (hB : 2 ^ a = B) : 2 ^ k = B ^ b := by
  subst hk; subst hB; exact Nat.pow_mul ..
theorem lim_pow (k : Nat) (hk : k = 32 * 32) : 2 ^ k = lim := pow_aux k 32 32 4294967296 hk rfl
theorem blen_lim_aux {xs : List Nat} (hd : Digs 4294967296 xs) (hn : Norm xs) (k : Nat) (hk : k = 32 * 32) : blen xs ≤ k ↔ val 4294967296 xs < lim := by
  rw [blen_le_iff hd hn k, lim_pow k hk]
theorem blen_lim {xs : List Nat} (hd : Digs 4294967296 xs) (hn : Norm xs) : blen xs ≤ 1024 ↔ val 4294967296 xs < lim := blen_lim_aux hd hn 1024 rfl

theorem AInt.zero (w : World) : AInt w (.agg #[.bool false, .slice none 0 0]) 0 := ⟨false, [], IntV.zero w, by simp [sv, val], by rw [val_nil]; exact lim_pos⟩

theorem sv_zero (neg : Bool) : sv neg 0 = 0 := by cases neg <;> simp [sv]
theorem sv_natAbs (neg : Bool) (n : Nat) : (sv neg n).natAbs = n := by cases neg <;> simp [sv]

theorem AInt.len {w : World} {v : Value} {neg : Bool} {xs : List Nat} (h : IntV w v neg xs) (hl : val 4294967296 xs < lim) : xs.length ≤ 32 := by
  obtain ⟨ao, cap, h1, h2, h3, h4, h5, h6, h7⟩ := h
  rcases Nat.lt_or_ge 32 xs.length with h | h
  · exfalso
    have h8 := h6.ge (B := 4294967296) (by intro e; subst e; simp at h) (by decide)
    have h9 : 4294967296 ^ 32 ≤ 4294967296 ^ (xs.length - 1) := Nat.pow_le_pow_right (by decide) (by omega)
    have h10 : lim = 4294967296 ^ 32 := rfl
    omega
  · exact h

set_option maxHeartbeats 400000 in
theorem signed_any (neg : Bool) (ao : Option Addr) (n cap : Nat) (xs : List Nat) (w : World) (hn : xs.length = n) (h1 : n ≤ cap) (h2 : cap ≤ 10000) (hs : Seg .u32 w ao xs) (hd : Digs 4294967296 xs) :
    Calls Try.prog 58 #[.bool neg, .slice ao n cap] w fun e w' => ∃ v neg', e = .returned v ∧ IntV w' v neg' (trimZ xs) ∧ sv neg' (val 4294967296 xs) = sv neg (val 4294967296 xs) ∧ Below w.heap.size w w' := by
  have HB : Hid (∀ o, Seg .u32 (w.alloc o) ao xs) := fun o => hs.below ((Below.refl _ _).alloc (Nat.le_refl _) _)
  by_cases ht : (trimZ xs).length = 0
  · have hz : (((trimZ xs).length : Int) == 0) = true := by simp [ht]
    have HX : Hid (trimZ xs = []) := List.eq_nil_of_length_eq_zero ht
    clear ht
    go_enter Try.func58, Try.ntmps58
    go_wp2_with (go_at_call 88; refine (trimmed_any _ _ _ xs _ hn h1 (by unfold maxLen; omega) (HB.out _)).mono ?_; rintro e w' ⟨rfl, rfl⟩)
    go_returns
    refine ⟨_, false, rfl, ?_, ?_, (Below.refl _ _).alloc (Nat.le_refl _) _⟩
    · rw [HX.out]; exact IntV.zero _
    · have := val_trimZ 4294967296 xs
      rw [HX.out, val_nil] at this
      rw [← this, sv_zero, sv_zero]
  · have hz : (((trimZ xs).length : Int) == 0) = false := by rw [beq_eq_false_iff_ne]; omega
    have HX : Hid (¬ (trimZ xs).length = 0) := ht
    clear ht
    go_enter Try.func58, Try.ntmps58
    go_wp2_with (go_at_call 88; refine (trimmed_any _ _ _ xs _ hn h1 (by unfold maxLen; omega) (HB.out _)).mono ?_; rintro e w' ⟨rfl, rfl⟩)
    go_returns
    refine ⟨_, neg, rfl, ⟨ao, cap, rfl, ?_, h2, ?_, hd.trimZ, norm_trimZ _, fun h => absurd h HX.out⟩, rfl, (Below.refl _ _).alloc (Nat.le_refl _) _⟩
    · have := trimZ_length_le xs; omega
    · have h4 := (HB.out (.cells #[.bool neg, .slice ao (trimZ xs).length cap] 25)).take (trimZ xs).length
      rw [← trimZ_take] at h4
      exact h4

set_option maxHeartbeats 400000 in
theorem bits_any (v : Value) (neg : Bool) (xs : List Nat) (w : World) (hv : IntV w v neg xs) :
    Calls Try.prog 79 #[v] w fun e w' => e = .returned (.int .i64 (blen xs)) ∧ Below w.heap.size w w' := by
  obtain ⟨ao, cap, rfl, h1, h2, hs, hd, hn, h3⟩ := hv
  have HB : Hid (∀ o, Seg .u32 (w.alloc o) ao xs) := fun o => hs.below ((Below.refl _ _).alloc (Nat.le_refl _) _)
  have HN : Hid (xs.length ≤ 10000) := Nat.le_trans h1 h2
  go_enter Try.func79, Try.ntmps79
  go_wp2_with (go_at_call 101; refine (bitLength_any _ _ _ xs _ rfl HN.out (HB.out _) hd).mono ?_; rintro e w' ⟨rfl, rfl⟩)
  go_ret
  exact ⟨rfl, (Below.refl _ _).alloc (Nat.le_refl _) _⟩

set_option maxHeartbeats 400000 in
theorem sign_any (v : Value) (neg : Bool) (xs : List Nat) (w : World) (hv : IntV w v neg xs) :
    Calls Try.prog 18 #[v] w fun e w' => e = .returned (.int .i64 (sv neg (val 4294967296 xs)).sign) ∧ Below w.heap.size w w' := by
  obtain ⟨ao, cap, rfl, h1, h2, hs, hd, hn, h3⟩ := hv
  by_cases h0 : xs.length = 0
  · have hx : xs = [] := List.eq_nil_of_length_eq_zero h0
    subst hx
    go_enter Try.func18, Try.ntmps18
    go_wp2
    go_ret
    exact ⟨by rw [val_nil, sv_zero]; rfl, (Below.refl _ _).alloc (Nat.le_refl _) _⟩
  · have hp := (hn.pos (B := 4294967296) (by intro e; subst e; simp at h0)).resolve_right (by decide)
    have hz : ((xs.length : Int) == 0) = false := by rw [beq_eq_false_iff_ne]; omega
    cases neg with
    | true =>
      have HS : Hid ((sv true (val 4294967296 xs)).sign = -1) := by
        show (sv true (val 4294967296 xs)).sign = -1
        simp only [sv, if_true]; exact Int.sign_eq_neg_one_of_neg (by omega)
      clear h0 hp
      go_enter Try.func18, Try.ntmps18
      go_wp2
      go_ret
      exact ⟨by rw [HS.out]; rfl, (Below.refl _ _).alloc (Nat.le_refl _) _⟩
    | false =>
      have HS : Hid ((sv false (val 4294967296 xs)).sign = 1) := by
        show (sv false (val 4294967296 xs)).sign = 1
        simp only [sv]; exact Int.sign_eq_one_of_pos (by simp; omega)
      clear h0 hp
      go_enter Try.func18, Try.ntmps18
      go_wp2
      go_ret
      exact ⟨by rw [HS.out]; rfl, (Below.refl _ _).alloc (Nat.le_refl _) _⟩
end Go.Proofs.Ytidpbdhhbeaijaa
/- Contract of arith.scaleLimbs; it proves no statement of the seat. -/
namespace Go.Proofs.Ytidpbdhhbeaijaa
open Go.RowKit

theorem mul_lt_word (x f : Nat) (hx : x < 4294967296) (hf : f < 4294967296) : x * f ≤ 18446744065119617025 := Nat.mul_le_mul (show x ≤ 4294967295 by omega) (show f ≤ 4294967295 by omega)

set_option maxHeartbeats 1000000 in
theorem scaleLimbs_any (ao : Option Addr) (n cap f m : Nat) (xs : List Nat) (w : World) (hn : xs.length = n) (h1 : n ≤ 9000) (hs : Seg .u32 w ao xs) (hd : Digs 4294967296 xs) (hf : f < 4294967296) (hm : m < 4294967296) :
    Calls Try.prog 86 #[.slice ao n cap, .int .u32 f, .int .u32 m] w fun e w' => ∃ zs, e = .returned (.slice (some ⟨w.heap.size, 0, none⟩) (trimZ zs).length (n + 1)) ∧ zs.length = n + 1 ∧ Digs 4294967296 zs ∧ val 4294967296 zs = val 4294967296 xs * f + m ∧ Row .u32 112 w' w.heap.size zs ∧ Below w.heap.size w w' := by
  have HN : Hid (xs.length = n) := hn
  clear hn
  go_enter Try.func86, Try.ntmps86
  go_wp2_with (first
    | (at_make; refine wpList_make_nums _ rfl _ _ 23 rfl 112 .u32 4 Try.underlying23 Try.info112 _ _ _ _ (n + 1) rfl rfl (by omega) (by omega) (by decide) (by omega) ?_; intro w1 hr1 hb1 hz1))
  go_loopw [8, 20] (fun c i wr => ∃ k cN : Nat, ∃ zs : List Nat, k ≤ n ∧ i = .int .i64 k ∧ c = .int .u64 cN ∧ cN < 4294967296 ∧ zs.length = n + 1 ∧ Digs 4294967296 zs ∧
      Hid (val 4294967296 (zs.take k) + 4294967296 ^ k * cN = val 4294967296 (xs.take k) * f + m) ∧ Row .u32 112 wr w.heap.size zs ∧ Below w.heap.size w wr) (fun _ i _ => n - (intOf i).toNat)
  case atStart => exact ⟨0, m, _, Nat.zero_le _, rfl, rfl, hm, by simp, Digs.replicate _ _ (by decide), (by simp [val] : _ = _), hr1, hb1⟩
  case round =>
    obtain ⟨k, cN, zs, hk, rfl, rfl, hc, hzl, hzd, HV, hrow, hbel⟩ := hrel
    have HZ : Hid (zs.length = n + 1) := hzl
    clear hzl
    by_cases h0 : k < n
    · obtain ⟨b, off, rfl, hcs⟩ := hs.open k (by have := HN.out; omega)
      have hbw : b < w.heap.size := World.block_lt_of_cell? w ⟨b, off + k, none⟩ (hcs k (by have := HN.out; omega))
      have hcell : wr.cell? ⟨b, off + k, none⟩ = some (.int .u32 (xs.getD k 0 : Nat)) := (hbel.cell (p := ⟨b, off + k, none⟩) hbw).trans (hcs k (by have := HN.out; omega))
      obtain ⟨x, hx⟩ : ∃ x, x = xs.getD k 0 := ⟨_, rfl⟩
      have hxl : x < 4294967296 := hx ▸ hd.getD (by decide) k
      rw [← hx] at hcell
      have HX : Hid (x = xs.getD k 0) := hx
      have hout := hrow.cell k (by have := HZ.out; omega)
      obtain ⟨z, hz⟩ : ∃ z, z = zs.getD k 0 := ⟨_, rfl⟩
      rw [← hz] at hout
      have hfr := hrow.frozen k
      have hprod := mul_lt_word x f hxl hf
      have hprod' : (x : Int) * (f : Int) ≤ 18446744065119617025 := by rw [← Int.natCast_mul]; omega
      have hprod0 : 0 ≤ (x : Int) * (f : Int) := by rw [← Int.natCast_mul]; omega
      clear hx hz hcs hr1 hb1 hprod
      go_wp2
      go_roundw
      case rel =>
        refine ⟨k + 1, (x * f + cN) / 4294967296, zs.set k ((x * f + cN) % 4294967296), by omega, by go_num, rfl, ?_, ?_, ?_, ?_, ?_, ?_⟩
        · have := mul_lt_word x f hxl hf; omega
        · rw [List.length_set]; exact HZ.out
        · exact hzd.set _ _ (Nat.mod_lt _ (by decide))
        · show _ = _
          rw [val_set_succ _ _ _ _ (by have := HZ.out; omega), val_take_succ _ _ _ (by have := HN.out; omega), ← HX.out, Nat.pow_succ]
          exact scale_step _ _ _ _ _ _ _ _ _ _ HV.out (Nat.mod_add_div _ _)
        · exact hrow.set k _ _ rfl
        · exact hbel.setCell (Nat.le_refl _) _
      case measure => simp [intOf]; omega
    · have hkn : k = n := by omega
      subst hkn
      have hout := hrow.cell k (by have := HZ.out; omega)
      obtain ⟨z, hz⟩ : ∃ z, z = zs.getD k 0 := ⟨_, rfl⟩
      rw [← hz] at hout
      have hfr := hrow.frozen k
      have hrow' : Row .u32 112 (wr.setCell ⟨w.heap.size, k, none⟩ (.int .u32 (cN : Int))) w.heap.size (zs.set k cN) := hrow.set k _ _ rfl
      have hl' : (zs.set k cN).length = k + 1 := by rw [List.length_set]; exact HZ.out
      have HL : Hid ((zs.set k cN).length = k + 1) := hl'
      have hsg := hrow'.all
      clear hz hr1 hb1 hl'
      go_wp2_with (go_at_call 88; refine (trimmed_any (some ⟨w.heap.size, 0, none⟩) (k + 1) (k + 1) (zs.set k cN) _ HL.out (Nat.le_refl _) (by unfold maxLen; omega) hsg).mono ?_; rintro e w' ⟨rfl, rfl⟩)
      go_ret
      refine ⟨zs.set k cN, rfl, HL.out, hzd.set _ _ hc, ?_, hrow', hbel.setCell (Nat.le_refl _) _⟩
      have e1 := val_set_succ 4294967296 zs k cN (by have := HZ.out; omega)
      rw [List.take_of_length_le (by rw [HL.out]; exact Nat.le_refl _)] at e1
      have e2 := HV.out
      rw [List.take_of_length_le (l := xs) (by have := HN.out; omega)] at e2
      rw [e1, e2]
end Go.Proofs.Ytidpbdhhbeaijaa
/- Contracts of strings.CutPrefix, arith.isPlain and arith.readDigits; they prove no statement of the seat. -/
namespace Go.Proofs.Ytidpbdhhbeaijaa
open Go.RowKit

/-- A text's bytes, as numbers. -/
def bs (s : ByteArray) : List Nat := s.data.toList.map UInt8.toNat

theorem bs_length (s : ByteArray) : (bs s).length = s.size := by
  simp only [bs, List.length_map, Array.length_toList]; rfl
theorem bs_get (s : ByteArray) (k : Nat) (h : k < s.size) : (s[k]'h).toNat = (bs s).getD k 0 := by
  have h' : k < s.data.toList.length := by rw [Array.length_toList]; exact h
  rw [bs, List.getD_eq_getElem?_getD, List.getElem?_map, List.getElem?_eq_getElem h']
  rfl
theorem bs_inj {s t : ByteArray} (h : bs s = bs t) : s = t := by
  have h1 : s.data.toList = t.data.toList := by
    unfold bs at h
    exact List.map_inj_right (fun a b e => UInt8.toNat_inj.1 e) |>.1 h
  cases s; cases t
  congr 1
  exact Array.toList_inj.1 h1
theorem bs_lt (s : ByteArray) (i : Nat) : (bs s).getD i 0 < 256 := by
  rw [List.getD_eq_getElem?_getD]
  cases h : (bs s)[i]? with
  | none => simp
  | some y =>
    obtain ⟨a, _, rfl⟩ := List.mem_map.1 (List.mem_of_getElem? h)
    simpa using a.toNat_lt

theorem bs_extract (s : ByteArray) (a b : Nat) : bs (s.extract a b) = ((bs s).take b).drop a := by
  simp only [bs, ByteArray.data_extract, Array.toList_extract, List.extract_eq_take_drop, List.map_drop, List.map_take]
  rw [List.drop_take]
theorem bs_extract_from (s : ByteArray) (a : Nat) : bs (s.extract a s.size) = (bs s).drop a := by
  rw [bs_extract, ← bs_length, List.take_length]

/-- Digits alone, none ahead of others a nought. -/
def Plain (l : List Nat) : Prop := 0 < l.length ∧ ¬ (l.getD 0 0 = 48 ∧ 1 < l.length) ∧ ∀ i, i < l.length → 48 ≤ l.getD i 0 ∧ l.getD i 0 ≤ 57
def AllDig (l : List Nat) (k : Nat) : Prop := ∀ i, i < k → 48 ≤ l.getD i 0 ∧ l.getD i 0 ≤ 57

set_option maxHeartbeats 400000 in
theorem isPlain_yes (s : ByteArray) (w : World) (hl : s.size ≤ 10000) (hp : Plain (bs s)) :
    Calls Try.prog 49 #[.string s] w fun e w' => e = .returned (.bool true) ∧ w' = w := by
  have HP : Hid (Plain (bs s)) := hp
  obtain ⟨h1, h2, h3⟩ := hp
  rw [bs_length] at h1 h2 h3
  have hz : ((s.size : Int) == 0) = false := by rw [beq_eq_false_iff_ne]; omega
  have h0 := bs_get s 0 h1
  have hcase : ((((s[0]'h1).toNat : Int) == 48) = true ∧ ¬ 1 < s.size) ∨ (((s[0]'h1).toNat : Int) == 48) = false := by
    by_cases e : (s[0]'h1).toNat = 48
    · left; exact ⟨by simp [e], fun h => h2 ⟨h0 ▸ e, h⟩⟩
    · right; rw [beq_eq_false_iff_ne]; omega
  have HA : Hid (∀ i, i < s.size → 48 ≤ (bs s).getD i 0 ∧ (bs s).getD i 0 ≤ 57) := h3
  clear h0 h2 h3
  rcases hcase with ⟨hf, hs⟩ | hf
  all_goals
    go_enter Try.func49, Try.ntmps49
    go_wp2
    go_loop [19] (fun i => ∃ k : Nat, k ≤ s.size ∧ i = .int .i64 k) (fun i => s.size - (intOf i).toNat)
    case atStart => exact ⟨0, by omega, rfl⟩
    case round =>
      obtain ⟨k, hk, rfl⟩ := hrel
      by_cases hlt : k < s.size
      · have hx := bs_get s k hlt
        have ha := HA.out k hlt
        rw [← hx] at ha
        obtain ⟨ha1, ha2⟩ := ha
        clear hx
        go_wp2
        go_round
        case rel => exact ⟨k + 1, by omega, by go_num⟩
        case measure => simp [intOf]; omega
      · go_wp2
        go_ret
        exact ⟨rfl, rfl⟩
set_option maxHeartbeats 400000 in
theorem isPlain_no (s : ByteArray) (w : World) (hl : s.size ≤ 10000) (hp : ¬ Plain (bs s)) :
    Calls Try.prog 49 #[.string s] w fun e w' => e = .returned (.bool false) ∧ w' = w := by
  by_cases h1 : 0 < s.size
  · have hz : ((s.size : Int) == 0) = false := by rw [beq_eq_false_iff_ne]; omega
    have h0 := bs_get s 0 h1
    by_cases h2 : (s[0]'h1).toNat = 48 ∧ 1 < s.size
    · obtain ⟨e1, e2⟩ := h2
      have hf : (((s[0]'h1).toNat : Int) == 48) = true := by simp [e1]
      clear e1 h0 hp
      go_enter Try.func49, Try.ntmps49
      go_wp2
      go_ret
      exact ⟨rfl, rfl⟩
    · have hcase : ((((s[0]'h1).toNat : Int) == 48) = true ∧ ¬ 1 < s.size) ∨ (((s[0]'h1).toNat : Int) == 48) = false := by
        by_cases e : (s[0]'h1).toNat = 48
        · left; exact ⟨by simp [e], fun h => h2 ⟨e, h⟩⟩
        · right; rw [beq_eq_false_iff_ne]; omega
      have HA : Hid (¬ AllDig (bs s) s.size) := by
        intro h
        refine hp ⟨by rw [bs_length]; exact h1, ?_, by rw [bs_length]; exact h⟩
        rw [bs_length, ← h0]; exact h2
      clear h0 h2 hp
      rcases hcase with ⟨hf, hs⟩ | hf
      all_goals
        go_enter Try.func49, Try.ntmps49
        go_wp2
        go_loop [19] (fun i => ∃ k : Nat, k ≤ s.size ∧ i = .int .i64 k ∧ Hid (AllDig (bs s) k)) (fun i => s.size - (intOf i).toNat)
        case atStart => exact ⟨0, by omega, rfl, fun i hi => by omega⟩
        case round =>
          obtain ⟨k, hk, rfl, hAD⟩ := hrel
          by_cases hlt : k < s.size
          · have hx := bs_get s k hlt
            have HX : Hid ((s[k]'hlt).toNat = (bs s).getD k 0) := hx
            clear hx
            by_cases hd : 48 ≤ (s[k]'hlt).toNat ∧ (s[k]'hlt).toNat ≤ 57
            · obtain ⟨ha1, ha2⟩ := hd
              go_wp2
              go_round
              case rel =>
                refine ⟨k + 1, by omega, by go_num, fun i hi => ?_⟩
                by_cases e : i = k
                · subst e; rw [← HX.out]; exact ⟨ha1, ha2⟩
                · exact hAD.out i (by omega)
              case measure => simp [intOf]; omega
            · by_cases hd1 : 48 ≤ (s[k]'hlt).toNat
              · have hd2 : ¬ (s[k]'hlt).toNat ≤ 57 := fun h => hd ⟨hd1, h⟩
                clear hd
                go_wp2
                go_ret
                exact ⟨rfl, rfl⟩
              · clear hd
                go_wp2
                go_ret
                exact ⟨rfl, rfl⟩
          · have hk' : k = s.size := by omega
            exact absurd (hk' ▸ hAD.out) HA.out
  · have hs : s = ByteArray.empty := by
      apply bs_inj
      apply List.eq_nil_of_length_eq_zero
      rw [bs_length]; omega
    subst hs
    go_enter Try.func49, Try.ntmps49
    go_wp2
    go_ret
    exact ⟨rfl, rfl⟩

theorem toList_beq (a : ByteArray) (l : List UInt8) : (a.toList == l) = decide (bs a = l.map UInt8.toNat) := by
  rw [ByteArray.toList_eq, Bool.eq_iff_iff, beq_iff_eq, decide_eq_true_iff]
  constructor
  · intro h; rw [bs, h]
  · intro h; exact (List.map_inj_right (fun a b e => UInt8.toNat_inj.1 e)).1 h

theorem toList_beq' (a b : ByteArray) : (a.toList == b.toList) = decide (bs a = bs b) := by
  rw [toList_beq, ByteArray.toList_eq b]; rfl

theorem toList_one (s : ByteArray) (h : 1 ≤ s.size) : ((s.extract 0 1).toList == [45]) = ((bs s).getD 0 0 == 45) := by
  rw [toList_beq, bs_extract, List.drop_zero]
  have hl : 1 ≤ (bs s).length := by rw [bs_length]; exact h
  cases e : bs s with
  | nil => rw [e] at hl; simp at hl
  | cons x r => simp; rfl

set_option maxHeartbeats 400000 in
theorem cut_yes (s : ByteArray) (w : World) (hl : s.size ≤ 10000) (h0 : 1 ≤ s.size) (h1 : (bs s).getD 0 0 = 45) :
    Calls Try.prog 48 #[.string s, .string ⟨#[45]⟩] w fun e w' => e = .returned (.tuple #[.string (s.extract 1 s.size), .bool true]) ∧ w' = w := by
  have h2 : ((s.extract 0 1).toList == [45]) = true := by rw [toList_one s h0, h1]; rfl
  clear h1
  go_enter Try.func48, Try.ntmps48
  go_wp2
  go_ret2
  exact ⟨rfl, rfl⟩

set_option maxHeartbeats 400000 in
theorem cut_no (s : ByteArray) (w : World) (hl : s.size ≤ 10000) (h1 : ¬ (1 ≤ s.size ∧ (bs s).getD 0 0 = 45)) :
    Calls Try.prog 48 #[.string s, .string ⟨#[45]⟩] w fun e w' => e = .returned (.tuple #[.string s, .bool false]) ∧ w' = w := by
  by_cases h0 : 1 ≤ s.size
  · have h2 : ((s.extract 0 1).toList == [45]) = false := by
      rw [toList_one s h0, beq_eq_false_iff_ne]; exact fun e => h1 ⟨h0, e⟩
    clear h1
    go_enter Try.func48, Try.ntmps48
    go_wp2
    go_ret2
    exact ⟨rfl, rfl⟩
  · clear h1
    go_enter Try.func48, Try.ntmps48
    go_wp2
    go_ret2
    exact ⟨rfl, rfl⟩

/-- The number that decimal digits write, the highest first. -/
def dec (l : List Nat) : Nat := l.foldl (fun a c => a * 10 + (c - 48)) 0
theorem dec_snoc (l : List Nat) (c : Nat) : dec (l ++ [c]) = dec l * 10 + (c - 48) := by simp [dec]
theorem pow10_step (j : Nat) (h : j ≤ 8) : (10 ^ j * 10 = 1000000000 ∧ j = 8) ∨ (10 ^ j * 10 ≤ 100000000 ∧ j < 8) := by
  have h' : ∀ j : Fin 9, (10 ^ j.val * 10 = 1000000000 ∧ j.val = 8) ∨ (10 ^ j.val * 10 ≤ 100000000 ∧ j.val < 8) := by decide
  exact h' ⟨j, by omega⟩
theorem dec_step (L p c d D : Nat) (h : L * p + c = D) : L * (p * 10) + (c * 10 + d) = D * 10 + d := by
  subst h
  rw [Nat.add_mul, ← Nat.mul_assoc]; omega
end Go.Proofs.Ytidpbdhhbeaijaa
