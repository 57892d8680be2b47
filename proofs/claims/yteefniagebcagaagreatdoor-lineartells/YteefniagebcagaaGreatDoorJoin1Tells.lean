/- Joined: Bits, Sign, LinM, Reg: words and contracts; no statement of the seat is proved here. -/
import Derived.Test.YteefniagebcagaaGreatDoorJoin0Tells
import Derived.Lib.BitFns
import Derived.WalkKit
import Derived.RegionTactic
/- Contracts of math/bits' functions (Add32, Sub32, Len32, LeadingZeros32) and of arith's splitWord, joinWord; they prove no statement of the seat. -/
namespace Go.Proofs.YteefniagebcagaaGreatDoor
open Go.RowKit

theorem testBit31 (n : Nat) (h : n < 4294967296) : n.testBit 31 = decide (2147483648 ≤ n) := by
  rw [Nat.testBit_eq_decide_div_mod_eq]
  congr 1
  apply propext
  constructor <;> intro h' <;> omega

theorem div31 (n : Nat) (h : n < 4294967296) : n / 2147483648 = (n.testBit 31).toNat := by
  rw [testBit31 n h]
  by_cases h' : 2147483648 ≤ n
  · simp [h']; omega
  · simp [h']; omega

/-- The borrow as the text has it, and as it is. -/
theorem borrow_eq (x y b : Nat) (hx : x < 4294967296) (hy : y < 4294967296) (hb : b ≤ 1) :
    (((4294967295 ^^^ x) &&& y) ||| ((4294967295 ^^^ (x ^^^ y)) &&& ((x + 4294967296 - y - b) % 4294967296))) / 2147483648 = if x < y + b then 1 else 0 := by
  have hd : (x + 4294967296 - y - b) % 4294967296 < 4294967296 := Nat.mod_lt _ (by decide)
  have hM : (4294967295 : Nat) < 2 ^ 32 := by decide
  have hx' : x < 2 ^ 32 := hx
  have hy' : y < 2 ^ 32 := hy
  have hd' : (x + 4294967296 - y - b) % 4294967296 < 2 ^ 32 := hd
  have l1 : ((4294967295 ^^^ x) &&& y) < 2 ^ 32 := Nat.and_lt_two_pow _ hy'
  have l2 : ((4294967295 ^^^ (x ^^^ y)) &&& ((x + 4294967296 - y - b) % 4294967296)) < 2 ^ 32 := Nat.and_lt_two_pow _ hd'
  have l3 := Nat.or_lt_two_pow l1 l2
  rw [div31 _ l3]
  simp only [Nat.testBit_or, Nat.testBit_and, Nat.testBit_xor, testBit31 x hx, testBit31 y hy, testBit31 _ hd, testBit31 4294967295 hM]
  by_cases c1 : 2147483648 ≤ x <;> by_cases c2 : 2147483648 ≤ y <;> by_cases c3 : 2147483648 ≤ (x + 4294967296 - y - b) % 4294967296 <;> by_cases c4 : x < y + b <;> simp [c1, c2, c3, c4] <;> omega

theorem sub32_num (x y b : Nat) (hx : x < 4294967296) (hy : y < 4294967296) (hb : b ≤ 1) :
    (bits BinOp.or IntKind.u32 (bits BinOp.and IntKind.u32 (bits BinOp.xor IntKind.u32 (if IntKind.u32.signed = true then -1 else IntKind.u32.max) (x : Int)) (y : Int))
      (bits BinOp.and IntKind.u32 (bits BinOp.xor IntKind.u32 (if IntKind.u32.signed = true then -1 else IntKind.u32.max) (bits BinOp.xor IntKind.u32 (x : Int) (y : Int))) (((x : Int) - y - b) % 4294967296))) / 2147483648
      = ((if x < y + b then 1 else 0 : Nat) : Int) := by
  have e0 : (if IntKind.u32.signed = true then -1 else IntKind.u32.max) = ((4294967295 : Nat) : Int) := by decide
  have e1 : ((x : Int) - y - b) % 4294967296 = (((x + 4294967296 - y - b) % 4294967296 : Nat) : Int) := by omega
  have hM : (4294967295 : Nat) < 2 ^ 32 := by decide
  have l1 : (4294967295 ^^^ x) < 2 ^ 32 := Nat.xor_lt_two_pow hM hx
  have l2 : (x ^^^ y) < 2 ^ 32 := Nat.xor_lt_two_pow hx hy
  have l3 : (4294967295 ^^^ (x ^^^ y)) < 2 ^ 32 := Nat.xor_lt_two_pow hM l2
  have hd : (x + 4294967296 - y - b) % 4294967296 < 2 ^ 32 := Nat.mod_lt _ (by decide)
  have l4 : ((4294967295 ^^^ x) &&& y) < 2 ^ 32 := Nat.and_lt_two_pow _ hy
  have l5 : ((4294967295 ^^^ (x ^^^ y)) &&& ((x + 4294967296 - y - b) % 4294967296)) < 2 ^ 32 := Nat.and_lt_two_pow _ hd
  rw [e0, e1, u32_xor_nat _ _ hM hx, u32_and_nat _ _ l1 hy, u32_xor_nat _ _ hx hy, u32_xor_nat _ _ hM l2, u32_and_nat _ _ l3 hd,
    u32_or_nat _ _ l4 l5]
  rw [← borrow_eq x y b hx hy hb]
  rfl

set_option maxRecDepth 100000 in
set_option maxHeartbeats 400000 in
theorem sub32_any (x y b : Nat) (w : World) (hx : (x : Int) < 4294967296) (hy : (y : Int) < 4294967296) (hb : b ≤ 1) :
    Calls Tryz.prog 124 #[.int .u32 x, .int .u32 y, .int .u32 b] w fun e w' =>
      e = .returned (.tuple #[.int .u32 (((x + 4294967296 - y - b) % 4294967296 : Nat) : Int), .int .u32 ((if x < y + b then 1 else 0 : Nat) : Int)]) ∧ w' = w := by
  have H := sub32_num x y b (by omega) (by omega) hb
  have H1 : (((x : Int) - y) % 4294967296 - b) % 4294967296 = (((x + 4294967296 - y - b) % 4294967296 : Nat) : Int) := by omega
  have HH : Hid (_ ∧ _) := ⟨H, H1⟩
  clear H H1
  go_enter Tryz.func124, Tryz.ntmps124
  iterate 81 go_step
  go_ret2
  refine ⟨?_, rfl⟩
  rw [← HH.out.1, ← HH.out.2]
  rfl

set_option maxHeartbeats 400000 in
theorem add32_any (x y b : Nat) (w : World) (hx : (x : Int) < 4294967296) (hy : (y : Int) < 4294967296) (hb : b ≤ 1) :
    Calls Tryz.prog 158 #[.int .u32 x, .int .u32 y, .int .u32 b] w fun e w' => e = .returned (.tuple #[.int .u32 (((x + y + b) % 4294967296 : Nat) : Int), .int .u32 (((x + y + b) / 4294967296 : Nat) : Int)]) ∧ w' = w := by
  go_enter Tryz.func158, Tryz.ntmps158
  go_wp2
  go_ret2
  exact ⟨rfl, rfl⟩

theorem Tryz.underlying9 : Tryz.prog.underlying 9 = some .string := by kernel_rfl

theorem wpList_index_len8 {P : Program} {w : World} {ops : Array Oper} {rest : List Oper} {o : Oper} {a : Act} {Q : Exit → Act → World → Prop} (hg : o.guard = none) (s i : Operand) (t : TypeId) (hop : o.op = Op.index t s i)
    (h : P.underlying t = some .string) (S : ByteArray) (hs : a.eval s = .string S) (hS : S = Lib.len8tab) (k : IntKind) (n : Int) (hi : a.eval i = .int k n) (h0 : 0 ≤ n) (h1 : n ≤ 255)
    (hK : wpList P ops Q rest (a.put o.dst (.int .u8 (Lib.len8 n))) w) : wpList P ops Q (o :: rest) a w := by
  subst hS
  refine wpList_plain hg fun K hK' => ?_
  have hrun := Lib.run_index_len8tab (P := P) w t k n h h0 h1
  unfold Oper.wp
  simp [execOp, hop, hs, hi, hrun, Result.andThen]
  exact hK' _ _ hK

/-- The table of lengths, as the translation writes it, under the library's name. -/
theorem fold8 : ({ data := (([0, 1, 2, 2, 3, 3, 3, 3, 4, 4, 4, 4, 4, 4, 4, 4, 5, 5, 5, 5, 5, 5, 5, 5, 5, 5, 5, 5, 5, 5, 5, 5, 6, 6, 6, 6, 6, 6, 6, 6, 6, 6, 6, 6, 6, 6, 6, 6, 6, 6, 6, 6, 6, 6, 6, 6, 6, 6, 6, 6, 6, 6, 6, 6].append [7, 7, 7, 7, 7, 7, 7, 7, 7, 7, 7, 7, 7, 7, 7, 7, 7, 7, 7, 7, 7, 7, 7, 7, 7, 7, 7, 7, 7, 7, 7, 7, 7, 7, 7, 7, 7, 7, 7, 7, 7, 7, 7, 7, 7, 7, 7, 7, 7, 7, 7, 7, 7, 7, 7, 7, 7, 7, 7, 7, 7, 7, 7, 7]).append ([8, 8, 8, 8, 8, 8, 8, 8, 8, 8, 8, 8, 8, 8, 8, 8, 8, 8, 8, 8, 8, 8, 8, 8, 8, 8, 8, 8, 8, 8, 8, 8, 8, 8, 8, 8, 8, 8, 8, 8, 8, 8, 8, 8, 8, 8, 8, 8, 8, 8, 8, 8, 8, 8, 8, 8, 8, 8, 8, 8, 8, 8, 8, 8].append [8, 8, 8, 8, 8, 8, 8, 8, 8, 8, 8, 8, 8, 8, 8, 8, 8, 8, 8, 8, 8, 8, 8, 8, 8, 8, 8, 8, 8, 8, 8, 8, 8, 8, 8, 8, 8, 8, 8, 8, 8, 8, 8, 8, 8, 8, 8, 8, 8, 8, 8, 8, 8, 8, 8, 8, 8, 8, 8, 8, 8, 8, 8, 8])).toArray } : ByteArray) = Lib.len8tab := by kernel_rfl

set_option maxRecDepth 100000 in
set_option maxHeartbeats 400000 in
theorem len32_any (x : Int) (w : World) (h0 : 0 ≤ x) (h1 : x ≤ 4294967295) :
    Calls Tryz.prog 139 #[.int .u32 x] w fun e w' => e = .returned (.int .i64 (Lib.bitLen x.toNat)) ∧ w' = w := by
  go_enter Tryz.func139, Tryz.ntmps139
  go_wp2_with (refine wpList_index_len8 rfl _ _ 9 rfl Tryz.underlying9 _ rfl fold8 _ _ rfl (by omega) (by omega) ?_)
  all_goals (go_ret; refine ⟨congrArg Ending.returned (congrArg (Value.int IntKind.i64) ?_), rfl⟩)
  all_goals first
    | (rw [Lib.len8_of (x / 65536 / 256) (by omega) (by omega)]
       have e : (x / 65536 / 256).toNat = x.toNat / 16777216 := by omega
       have l := Lib.bitLen_le8' (x / 65536 / 256) (by omega) (by omega)
       have s := Lib.bitLen_shift24 x.toNat (by omega) (by omega)
       rw [e] at l ⊢
       unfold wrap64
       omega)
    | (rw [Lib.len8_of (x / 65536) (by omega) (by omega)]
       have e : (x / 65536).toNat = x.toNat / 65536 := by omega
       have l := Lib.bitLen_le8' (x / 65536) (by omega) (by omega)
       have s := Lib.bitLen_shift16 x.toNat (by omega) (by omega)
       rw [e] at l ⊢
       unfold wrap64
       omega)
    | (rw [Lib.len8_of (x / 256) (by omega) (by omega)]
       have e : (x / 256).toNat = x.toNat / 256 := by omega
       have l := Lib.bitLen_le8' (x / 256) (by omega) (by omega)
       have s := Lib.bitLen_shift8 x.toNat (by omega) (by omega)
       rw [e] at l ⊢
       unfold wrap64
       omega)
    | (rw [Lib.len8_of x (by omega) (by omega)]
       have l := Lib.bitLen_le8' x (by omega) (by omega)
       unfold wrap64
       omega)

set_option maxHeartbeats 400000 in
theorem splitWord_any (n : Nat) (w : World) (hn : (n : Int) < 18446744073709551616) :
    Calls Tryz.prog 111 #[.int .u64 n] w fun e w' => e = .returned (.slice (some ⟨w.heap.size, 0, none⟩) (trimZ [n % 4294967296, n / 4294967296]).length 2) ∧ Row .u32 167 w' w.heap.size [n % 4294967296, n / 4294967296] ∧ Below w.heap.size w w' ∧ w'.heap.size = w.heap.size + 1 := by
  go_enter Tryz.func111, Tryz.ntmps111
  go_wp2_with fail
  have hr := Row.new w .u32 167 [n % 4294967296, n / 4294967296]
  refine (trimmed_any (some ⟨w.heap.size, 0, none⟩) 2 2 [n % 4294967296, n / 4294967296] _ rfl (Nat.le_refl _) (by unfold maxLen; omega) hr.all).mono ?_
  rintro e w' ⟨rfl, rfl⟩
  go_wp2
  go_ret
  refine ⟨rfl, hr, ?_, ?_⟩
  · exact (Below.refl _ _).alloc (Nat.le_refl _) _
  · simp

theorem or_join (a b : Nat) (ha : a < 4294967296) (hb : b < 4294967296) : bits BinOp.or IntKind.u64 (a : Int) (IntKind.u64.wrap (IntKind.u64.wrap (b : Int) * 2 ^ (1 * 32))) = ((a + 4294967296 * b : Nat) : Int) := by
  have e1 : IntKind.u64.wrap (IntKind.u64.wrap (b : Int) * 2 ^ (1 * 32)) = ((b * 4294967296 : Nat) : Int) := by
    rw [IntKind.wrap_u64, IntKind.wrap_u64]; omega
  rw [e1, u64_or_nat _ _ (by omega) (by omega)]
  congr 1
  have := Nat.shiftLeft_add_eq_or_of_lt (b := a) (i := 32) ha b
  rw [Nat.shiftLeft_eq] at this
  rw [Nat.or_comm, ← show b * 2 ^ 32 = b * 4294967296 from rfl, ← this]
  omega

theorem or_none (b : Nat) (hb : b < 4294967296) : bits BinOp.or IntKind.u64 ((0 : Nat) : Int) (IntKind.u64.wrap (IntKind.u64.wrap (b : Int) * 2 ^ (0 * 32))) = (b : Int) := by
  have e1 : IntKind.u64.wrap (IntKind.u64.wrap (b : Int) * 2 ^ (0 * 32)) = (b : Int) := by
    rw [IntKind.wrap_u64, IntKind.wrap_u64]; omega
  rw [e1, u64_or_nat _ _ (by omega) (by omega)]
  simp

theorem join_step (xs : List Nat) (k : Nat) (hl : xs.length ≤ 2) (h0 : k < xs.length) (hd : Digs 4294967296 xs) :
    bits BinOp.or IntKind.u64 ((val 4294967296 (xs.take k) : Nat) : Int) (IntKind.u64.wrap (IntKind.u64.wrap ((xs[k] : Nat) : Int) * 2 ^ (k * 32))) = ((val 4294967296 (xs.take (k + 1)) : Nat) : Int) := by
  have hk := hd.get (by decide) k
  rw [List.getElem?_eq_getElem h0] at hk
  simp only [Option.getD_some] at hk
  have hv : val 4294967296 (xs.take (k + 1)) = val 4294967296 (xs.take k) + 4294967296 ^ k * xs[k] := by
    rw [val_take_succ _ _ _ h0, List.getD_eq_getElem?_getD, List.getElem?_eq_getElem h0]; rfl
  rw [hv]
  have hc : k = 0 ∨ k = 1 := by omega
  rcases hc with rfl | rfl
  · simp only [List.take_zero, val_nil]
    rw [or_none _ hk]
    simp
  · have h1 := val_lt (hd.take 1)
    rw [List.length_take, Nat.min_eq_left (by omega)] at h1
    rw [or_join _ _ (by simpa using h1) hk]

set_option maxHeartbeats 400000 in
theorem joinWord_any (ao : Option Addr) (n cap : Nat) (xs : List Nat) (w : World) (hn : xs.length = n) (h1 : n ≤ 2) (hs : Seg .u32 w ao xs) (hd : Digs 4294967296 xs) :
    Calls Tryz.prog 116 #[.slice ao n cap] w fun e w' => e = .returned (.int .u64 (val 4294967296 xs)) ∧ w' = w := by
  subst hn
  go_enter Tryz.func116, Tryz.ntmps116
  go_wp2
  go_loop [3, 8] (fun v i => ∃ k : Nat, k ≤ xs.length ∧ i = .int .i64 k ∧ v = .int .u64 (val 4294967296 (xs.take k))) (fun v i => 2 - (intOf i).toNat)
  case atStart => exact ⟨0, by omega, rfl, rfl⟩
  case round =>
    obtain ⟨k, hk, rfl, rfl⟩ := hrel
    by_cases h0 : k < xs.length
    · obtain ⟨b, off, rfl, hc⟩ := hs.open k h0
      have hcell := hc k h0
      clear hc
      go_wp2
      go_round
      case rel => exact ⟨k + 1, by omega, by go_num, by rw [← join_step xs k h1 h0 hd]⟩
      case measure => simp [intOf]; omega
    · go_wp2
      go_ret
      refine ⟨?_, rfl⟩
      rw [List.take_of_length_le (by omega)]
      rfl
end Go.Proofs.YteefniagebcagaaGreatDoor
/- Contracts of arith's bitLength, Bits, Sign, signed, fitting, From, Small, Neg, Abs, cmpLimbs, Cmp; they prove no statement of the seat. -/
namespace Go.Proofs.YteefniagebcagaaGreatDoor
open Go.RowKit

theorem bitLen_bounds (x : Nat) (h0 : x ≠ 0) (h : x < 2 ^ 64) : 2 ^ (Lib.bitLen x - 1) ≤ x ∧ x < 2 ^ Lib.bitLen x ∧ 0 < Lib.bitLen x := by
  induction x using Nat.strongRecOn with
  | ind x ih =>
    rw [Lib.bitLen_half x h0 h]
    by_cases h1 : x = 1
    · subst h1; decide
    · obtain ⟨a, b, c⟩ := ih (x / 2) (by omega) (by omega) (by omega)
      have e : 1 + Lib.bitLen (x / 2) - 1 = (Lib.bitLen (x / 2) - 1) + 1 := by omega
      rw [e, Nat.pow_succ, Nat.add_comm 1, Nat.pow_succ]
      omega

/-- How many bits the number of limbs has. -/
def blen (xs : List Nat) : Nat := if xs.length = 0 then 0 else (xs.length - 1) * 32 + Lib.bitLen (xs.getD (xs.length - 1) 0)

theorem blen_bounds {xs : List Nat} (hd : Digs 4294967296 xs) (hn : Norm xs) (hne : 0 < xs.length) : 2 ^ (blen xs - 1) ≤ val 4294967296 xs ∧ val 4294967296 xs < 2 ^ blen xs ∧ 0 < blen xs := by
  have ht := hn.last hne
  have hlt := hd.getD (by decide) (xs.length - 1)
  obtain ⟨a, b, c⟩ := bitLen_bounds _ ht (by omega)
  have e1 : val 4294967296 xs = val 4294967296 (xs.take (xs.length - 1)) + 4294967296 ^ (xs.length - 1) * xs.getD (xs.length - 1) 0 := by
    have := val_take_succ 4294967296 xs (xs.length - 1) (by omega)
    rwa [show xs.length - 1 + 1 = xs.length by omega, List.take_length] at this
  have e2 := val_lt (hd.take (xs.length - 1))
  rw [List.length_take, Nat.min_eq_left (by omega)] at e2
  have e3 : (4294967296 : Nat) ^ (xs.length - 1) = 2 ^ ((xs.length - 1) * 32) := by
    rw [Nat.mul_comm, Nat.pow_mul]
  rw [e3] at e1 e2
  unfold blen
  rw [if_neg (by omega)]
  generalize xs.getD (xs.length - 1) 0 = t at *
  generalize (xs.length - 1) * 32 = s at *
  generalize val 4294967296 (xs.take (xs.length - 1)) = r at *
  refine ⟨?_, ?_, by omega⟩
  · rw [show s + Lib.bitLen t - 1 = s + (Lib.bitLen t - 1) by omega, Nat.pow_add, e1]
    exact Nat.le_trans (Nat.mul_le_mul_left _ a) (Nat.le_add_left _ _)
  · rw [Nat.pow_add, e1]
    have : 2 ^ s * (t + 1) ≤ 2 ^ s * 2 ^ Lib.bitLen t := Nat.mul_le_mul_left _ b
    rw [Nat.mul_add, Nat.mul_one] at this
    omega

theorem blen_le_iff {xs : List Nat} (hd : Digs 4294967296 xs) (hn : Norm xs) (k : Nat) : blen xs ≤ k ↔ val 4294967296 xs < 2 ^ k := by
  by_cases hne : 0 < xs.length
  · obtain ⟨a, b, c⟩ := blen_bounds hd hn hne
    constructor
    · intro h; exact Nat.lt_of_lt_of_le b (Nat.pow_le_pow_right (by decide) h)
    · intro h
      rcases Nat.lt_or_ge k (blen xs) with h' | h'
      · have : 2 ^ k ≤ 2 ^ (blen xs - 1) := Nat.pow_le_pow_right (by decide) (by omega)
        omega
      · exact h'
  · have : xs = [] := List.eq_nil_of_length_eq_zero (by omega)
    subst this
    simp [blen, val]
    exact Nat.pow_pos (by decide)

set_option maxHeartbeats 400000 in
theorem bitLength_any (ao : Option Addr) (n cap : Nat) (xs : List Nat) (w : World) (hn : xs.length = n) (h1 : n ≤ 10000) (hs : Seg .u32 w ao xs) (hd : Digs 4294967296 xs) :
    Calls Tryz.prog 121 #[.slice ao n cap] w fun e w' => e = .returned (.int .i64 (blen xs)) ∧ w' = w := by
  subst hn
  by_cases h0 : 0 < xs.length
  · obtain ⟨b, off, rfl, hc⟩ := hs.open 0 h0
    have hcell := hc (xs.length - 1) (by omega)
    have hlt := hd.get (by decide) (xs.length - 1)
    have hz : ((xs.length : Int) == 0) = false := by rw [beq_eq_false_iff_ne]; omega
    clear hc
    have HF : Hid (blen xs = (xs.length - 1) * 32 + Lib.bitLen (xs[xs.length - 1]?.getD 0)) := by
      show blen xs = _
      unfold blen; rw [if_neg (by omega), List.getD_eq_getElem?_getD]
    have hb8 := Lib.bitLen_le (xs[xs.length - 1]?.getD 0) 32 (by decide) hlt
    go_enter Tryz.func121, Tryz.ntmps121
    go_wp2_with (go_at_call 139; refine (len32_any _ _ (by omega) (by omega)).mono ?_; rintro e w' ⟨rfl, rfl⟩)
    go_ret
    refine ⟨?_, rfl⟩
    rw [HF.out]
    refine congrArg Ending.returned (congrArg (Value.int IntKind.i64) ?_)
    omega
  · have hx : xs = [] := List.eq_nil_of_length_eq_zero (by omega)
    subst hx
    go_enter Tryz.func121, Tryz.ntmps121
    go_wp2
    go_ret
    exact ⟨rfl, rfl⟩

/-- A number's size and sign. -/
def sv (neg : Bool) (n : Nat) : Int := if neg then -(n : Int) else n
/-- What no number reaches. -/
def lim : Nat := 4294967296 ^ 32

/-- An arith.Int: its sign and its limbs. -/
def IntV (w : World) (v : Value) (neg : Bool) (xs : List Nat) : Prop :=
  ∃ ao cap, v = .agg #[.bool neg, .slice ao xs.length cap] ∧ xs.length ≤ cap ∧ cap ≤ 10000 ∧ Seg .u32 w ao xs ∧ Digs 4294967296 xs ∧ Norm xs ∧ (xs.length = 0 → neg = false)

theorem IntV.below {w w' : World} {v : Value} {neg : Bool} {xs : List Nat} (h : IntV w v neg xs) (hb : Below w.heap.size w w') : IntV w' v neg xs := by
  obtain ⟨ao, cap, h1, h2, h3, h4, h5⟩ := h
  exact ⟨ao, cap, h1, h2, h3, h4.below hb, h5⟩

theorem IntV.store2 {w : World} {v : Value} {neg : Bool} {xs : List Nat} (h : IntV w v neg xs) {t : TypeId} {b : Nat} {x : Bool} {a : Option Addr} {n c : Nat} (hB : Blk t w b #[.bool x, .slice a n c]) (y : Bool) (a' : Option Addr) (n' c' : Nat) :
    IntV ((w.setCell ⟨b, 0, none⟩ (.bool y)).setCell ⟨b, 1, none⟩ (.slice a' n' c')) v neg xs := by
  obtain ⟨ao, cap, h1, h2, h3, h4, h5⟩ := h
  exact ⟨ao, cap, h1, h2, h3, h4.store2 hB y a' n' c', h5⟩

theorem IntV.zero (w : World) : IntV w (.agg #[.bool false, .slice none 0 0]) false [] :=
  ⟨none, 0, rfl, Nat.le_refl _, by omega, Seg.nil _ _ _, Digs.nil _, Norm.nil, fun _ => rfl⟩

/-- An arith.Int: its value. -/
def AInt (w : World) (v : Value) (z : Int) : Prop := ∃ neg xs, IntV w v neg xs ∧ z = sv neg (val 4294967296 xs) ∧ val 4294967296 xs < lim

theorem AInt.below {w w' : World} {v : Value} {z : Int} (h : AInt w v z) (hb : Below w.heap.size w w') : AInt w' v z := by
  obtain ⟨neg, xs, h1, h2⟩ := h
  exact ⟨neg, xs, h1.below hb, h2⟩

theorem AInt.store2 {w : World} {v : Value} {z : Int} (h : AInt w v z) {t : TypeId} {b : Nat} {x : Bool} {a : Option Addr} {n c : Nat} (hB : Blk t w b #[.bool x, .slice a n c]) (y : Bool) (a' : Option Addr) (n' c' : Nat) :
    AInt ((w.setCell ⟨b, 0, none⟩ (.bool y)).setCell ⟨b, 1, none⟩ (.slice a' n' c')) v z := by
  obtain ⟨neg, xs, h1, h2⟩ := h
  exact ⟨neg, xs, h1.store2 hB y a' n' c', h2⟩

theorem lim_pos : 0 < lim := Nat.pow_pos (by decide)
theorem pow_aux (k a b B : Nat) (hk : k = a * b) (hB : 2 ^ a = B) : 2 ^ k = B ^ b := by
  subst hk; subst hB; exact Nat.pow_mul ..
theorem lim_pow (k : Nat) (hk : k = 32 * 32) : 2 ^ k = lim := pow_aux k 32 32 4294967296 hk rfl
theorem blen_lim_aux {xs : List Nat} (hd : Digs 4294967296 xs) (hn : Norm xs) (k : Nat) (hk : k = 32 * 32) : blen xs ≤ k ↔ val 4294967296 xs < lim := by
  rw [blen_le_iff hd hn k, lim_pow k hk]
theorem blen_lim {xs : List Nat} (hd : Digs 4294967296 xs) (hn : Norm xs) : blen xs ≤ 1024 ↔ val 4294967296 xs < lim := blen_lim_aux hd hn 1024 rfl

theorem AInt.zero (w : World) : AInt w (.agg #[.bool false, .slice none 0 0]) 0 := ⟨false, [], IntV.zero w, by simp [sv, val], by rw [val_nil]; exact lim_pos⟩

theorem sv_zero (neg : Bool) : sv neg 0 = 0 := by cases neg <;> simp [sv]
theorem sv_natAbs (neg : Bool) (n : Nat) : (sv neg n).natAbs = n := by cases neg <;> simp [sv]

theorem AInt.len {w : World} {v : Value} {neg : Bool} {xs : List Nat} (h : IntV w v neg xs) (hl : val 4294967296 xs < lim) : xs.length ≤ 32 := by
  obtain ⟨ao, cap, h1, h2, h3, h4, h5, h6, h7⟩ := h
  rcases Nat.lt_or_ge 32 xs.length with h | h
  · exfalso
    have h8 := h6.ge (B := 4294967296) (by intro e; subst e; simp at h) (by decide)
    have h9 : 4294967296 ^ 32 ≤ 4294967296 ^ (xs.length - 1) := Nat.pow_le_pow_right (by decide) (by omega)
    have h10 : lim = 4294967296 ^ 32 := rfl
    omega
  · exact h

set_option maxHeartbeats 400000 in
theorem signed_any (neg : Bool) (ao : Option Addr) (n cap : Nat) (xs : List Nat) (w : World) (hn : xs.length = n) (h1 : n ≤ cap) (h2 : cap ≤ 10000) (hs : Seg .u32 w ao xs) (hd : Digs 4294967296 xs) :
    Calls Tryz.prog 88 #[.bool neg, .slice ao n cap] w fun e w' => ∃ v neg', e = .returned v ∧ IntV w' v neg' (trimZ xs) ∧ sv neg' (val 4294967296 xs) = sv neg (val 4294967296 xs) ∧ Below w.heap.size w w' := by
  have HB : Hid (∀ o, Seg .u32 (w.alloc o) ao xs) := fun o => hs.below ((Below.refl _ _).alloc (Nat.le_refl _) _)
  by_cases ht : (trimZ xs).length = 0
  · have hz : (((trimZ xs).length : Int) == 0) = true := by simp [ht]
    have HX : Hid (trimZ xs = []) := List.eq_nil_of_length_eq_zero ht
    clear ht
    go_enter Tryz.func88, Tryz.ntmps88
    go_wp2_with (go_at_call 113; refine (trimmed_any _ _ _ xs _ hn h1 (by unfold maxLen; omega) (HB.out _)).mono ?_; rintro e w' ⟨rfl, rfl⟩)
    go_returns
    refine ⟨_, false, rfl, ?_, ?_, (Below.refl _ _).alloc (Nat.le_refl _) _⟩
    · rw [HX.out]; exact IntV.zero _
    · have := val_trimZ 4294967296 xs
      rw [HX.out, val_nil] at this
      rw [← this, sv_zero, sv_zero]
  · have hz : (((trimZ xs).length : Int) == 0) = false := by rw [beq_eq_false_iff_ne]; omega
    have HX : Hid (¬ (trimZ xs).length = 0) := ht
    clear ht
    go_enter Tryz.func88, Tryz.ntmps88
    go_wp2_with (go_at_call 113; refine (trimmed_any _ _ _ xs _ hn h1 (by unfold maxLen; omega) (HB.out _)).mono ?_; rintro e w' ⟨rfl, rfl⟩)
    go_returns
    refine ⟨_, neg, rfl, ⟨ao, cap, rfl, ?_, h2, ?_, hd.trimZ, norm_trimZ _, fun h => absurd h HX.out⟩, rfl, (Below.refl _ _).alloc (Nat.le_refl _) _⟩
    · have := trimZ_length_le xs; omega
    · have h4 := (HB.out (.cells #[.bool neg, .slice ao (trimZ xs).length cap] 31)).take (trimZ xs).length
      rw [← trimZ_take] at h4
      exact h4

set_option maxHeartbeats 400000 in
theorem bits_any (v : Value) (neg : Bool) (xs : List Nat) (w : World) (hv : IntV w v neg xs) :
    Calls Tryz.prog 81 #[v] w fun e w' => e = .returned (.int .i64 (blen xs)) ∧ Below w.heap.size w w' := by
  obtain ⟨ao, cap, rfl, h1, h2, hs, hd, hn, h3⟩ := hv
  have HB : Hid (∀ o, Seg .u32 (w.alloc o) ao xs) := fun o => hs.below ((Below.refl _ _).alloc (Nat.le_refl _) _)
  have HN : Hid (xs.length ≤ 10000) := Nat.le_trans h1 h2
  go_enter Tryz.func81, Tryz.ntmps81
  go_wp2_with (go_at_call 121; refine (bitLength_any _ _ _ xs _ rfl HN.out (HB.out _) hd).mono ?_; rintro e w' ⟨rfl, rfl⟩)
  go_ret
  exact ⟨rfl, (Below.refl _ _).alloc (Nat.le_refl _) _⟩

set_option maxHeartbeats 400000 in
theorem sign_any (v : Value) (neg : Bool) (xs : List Nat) (w : World) (hv : IntV w v neg xs) :
    Calls Tryz.prog 63 #[v] w fun e w' => e = .returned (.int .i64 (sv neg (val 4294967296 xs)).sign) ∧ Below w.heap.size w w' := by
  obtain ⟨ao, cap, rfl, h1, h2, hs, hd, hn, h3⟩ := hv
  by_cases h0 : xs.length = 0
  · have hx : xs = [] := List.eq_nil_of_length_eq_zero h0
    subst hx
    go_enter Tryz.func63, Tryz.ntmps63
    go_wp2
    go_ret
    exact ⟨by rw [val_nil, sv_zero]; rfl, (Below.refl _ _).alloc (Nat.le_refl _) _⟩
  · have hp := (hn.pos (B := 4294967296) (by intro e; subst e; simp at h0)).resolve_right (by decide)
    have hz : ((xs.length : Int) == 0) = false := by rw [beq_eq_false_iff_ne]; omega
    cases neg with
    | true =>
      have HS : Hid ((sv true (val 4294967296 xs)).sign = -1) := by
        show (sv true (val 4294967296 xs)).sign = -1
        simp only [sv, if_true]; exact Int.sign_eq_neg_one_of_neg (by omega)
      clear h0 hp
      go_enter Tryz.func63, Tryz.ntmps63
      go_wp2
      go_ret
      exact ⟨by rw [HS.out]; rfl, (Below.refl _ _).alloc (Nat.le_refl _) _⟩
    | false =>
      have HS : Hid ((sv false (val 4294967296 xs)).sign = 1) := by
        show (sv false (val 4294967296 xs)).sign = 1
        simp only [sv]; exact Int.sign_eq_one_of_pos (by simp; omega)
      clear h0 hp
      go_enter Tryz.func63, Tryz.ntmps63
      go_wp2
      go_ret
      exact ⟨by rw [HS.out]; rfl, (Below.refl _ _).alloc (Nat.le_refl _) _⟩
end Go.Proofs.YteefniagebcagaaGreatDoor
/- Plain facts on sums of variables: lists of variables with coefficients, the variables rising; no program is spoken of here. -/
namespace Go.Proofs.YteefniagebcagaaGreatDoor

/-- A variable's coefficient; 0 of one that isn't there. -/
def coef : List (Nat × Int) → Nat → Int
  | [], _ => 0
  | p :: r, v => if p.1 = v then p.2 else coef r v
/-- The variables rise. -/
def Rise (l : List (Nat × Int)) : Prop := l.Pairwise (fun p q => p.1 < q.1)
/-- The variables rise, no coefficient is 0, all is within its range. -/
def Fine (l : List (Nat × Int)) : Prop := Rise l ∧ ∀ p ∈ l, p.2 ≠ 0 ∧ p.2.natAbs < lim ∧ p.1 < 4096

theorem Rise.tail {p : Nat × Int} {l : List (Nat × Int)} (h : Rise (p :: l)) : Rise l := (List.pairwise_cons.1 h).2
theorem Rise.head {p : Nat × Int} {l : List (Nat × Int)} (h : Rise (p :: l)) : ∀ q ∈ l, p.1 < q.1 := (List.pairwise_cons.1 h).1
theorem Fine.tail {p : Nat × Int} {l : List (Nat × Int)} (h : Fine (p :: l)) : Fine l := ⟨h.1.tail, fun q hq => h.2 q (List.mem_cons_of_mem _ hq)⟩
theorem Fine.nil : Fine [] := ⟨List.Pairwise.nil, fun p hp => by cases hp⟩
theorem coef_out {l : List (Nat × Int)} {v : Nat} (h : ∀ q ∈ l, v ≠ q.1) : coef l v = 0 := by
  induction l with
  | nil => rfl
  | cons p r ih =>
    rw [coef, if_neg (fun e => h p (List.mem_cons_self ..) e.symm)]
    exact ih fun q hq => h q (List.mem_cons_of_mem _ hq)
theorem coef_low {l : List (Nat × Int)} {v : Nat} (h : ∀ q ∈ l, v < q.1) : coef l v = 0 := coef_out fun q hq => by have := h q hq; omega
theorem coef_mem {l : List (Nat × Int)} (hr : Rise l) {p : Nat × Int} (hp : p ∈ l) : coef l p.1 = p.2 := by
  induction l with
  | nil => cases hp
  | cons q r ih =>
    rcases List.mem_cons.1 hp with e | e
    · subst e; rw [coef, if_pos rfl]
    · have := hr.head p e
      rw [coef, if_neg (by omega)]
      exact ih hr.tail e
theorem coef_ne {l : List (Nat × Int)} {v : Nat} (h : coef l v ≠ 0) : ∃ p ∈ l, p.1 = v ∧ p.2 = coef l v := by
  induction l with
  | nil => exact absurd rfl h
  | cons q r ih =>
    rw [coef] at h ⊢
    split at h
    · rename_i e; exact ⟨q, List.mem_cons_self .., e, by rw [if_pos e]⟩
    · rename_i e
      obtain ⟨p, h1, h2, h3⟩ := ih h
      exact ⟨p, List.mem_cons_of_mem _ h1, h2, by rw [if_neg e]; exact h3⟩
/-- Both together; a coefficient that becomes 0 goes. -/
def addP : List (Nat × Int) → List (Nat × Int) → List (Nat × Int)
  | [], b => b
  | p :: a, [] => p :: a
  | p :: a, q :: b =>
    if p.1 < q.1 then p :: addP a (q :: b)
    else if q.1 < p.1 then q :: addP (p :: a) b
    else if p.2 + q.2 = 0 then addP a b
    else (p.1, p.2 + q.2) :: addP a b
termination_by a b => a.length + b.length
theorem addP_nil_right (a : List (Nat × Int)) : addP a [] = a := by cases a <;> simp [addP]
theorem addP_nil_left (a : List (Nat × Int)) : addP [] a = a := by simp [addP]
/-- What lies in both has a variable of one of them. -/
theorem addP_mem : ∀ (a b : List (Nat × Int)) (x : Nat × Int), x ∈ addP a b → (∃ p ∈ a, p.1 = x.1) ∨ (∃ q ∈ b, q.1 = x.1)
  | [], b, x, h => by rw [addP] at h; exact Or.inr ⟨x, h, rfl⟩
  | p :: a, [], x, h => by rw [addP] at h; exact Or.inl ⟨x, h, rfl⟩
  | p :: a, q :: b, x, h => by
    rw [addP] at h
    split at h
    · rcases List.mem_cons.1 h with e | e
      · subst e; exact Or.inl ⟨_, List.mem_cons_self .., rfl⟩
      · rcases addP_mem a (q :: b) x e with ⟨y, h1, h2⟩ | k
        · exact Or.inl ⟨y, List.mem_cons_of_mem _ h1, h2⟩
        · exact Or.inr k
    · split at h
      · rcases List.mem_cons.1 h with e | e
        · subst e; exact Or.inr ⟨_, List.mem_cons_self .., rfl⟩
        · rcases addP_mem (p :: a) b x e with k | ⟨y, h1, h2⟩
          · exact Or.inl k
          · exact Or.inr ⟨y, List.mem_cons_of_mem _ h1, h2⟩
      · have hrec : x ∈ addP a b → (∃ y ∈ p :: a, y.1 = x.1) ∨ (∃ y ∈ q :: b, y.1 = x.1) := by
          intro e
          rcases addP_mem a b x e with ⟨y, h1, h2⟩ | ⟨y, h1, h2⟩
          · exact Or.inl ⟨y, List.mem_cons_of_mem _ h1, h2⟩
          · exact Or.inr ⟨y, List.mem_cons_of_mem _ h1, h2⟩
        split at h
        · exact hrec h
        · rcases List.mem_cons.1 h with e | e
          · subst e; exact Or.inl ⟨p, List.mem_cons_self .., rfl⟩
          · exact hrec e
termination_by a b => a.length + b.length
theorem addP_above {a b : List (Nat × Int)} {n : Nat} (ha : ∀ p ∈ a, n < p.1) (hb : ∀ p ∈ b, n < p.1) : ∀ x ∈ addP a b, n < x.1 := by
  intro x hx
  rcases addP_mem a b x hx with ⟨p, h1, h2⟩ | ⟨p, h1, h2⟩
  · rw [← h2]; exact ha p h1
  · rw [← h2]; exact hb p h1
theorem addP_rise : ∀ (a b : List (Nat × Int)), Rise a → Rise b → Rise (addP a b)
  | [], b, _, hb => by rw [addP]; exact hb
  | p :: a, [], ha, _ => by rw [addP]; exact ha
  | p :: a, q :: b, ha, hb => by
    rw [addP]
    split
    · rename_i h
      refine List.pairwise_cons.2 ⟨?_, addP_rise a (q :: b) ha.tail hb⟩
      refine addP_above ha.head ?_
      intro x hx
      rcases List.mem_cons.1 hx with e | e
      · subst e; exact h
      · have := hb.head x e; omega
    · split
      · rename_i h1 h
        refine List.pairwise_cons.2 ⟨?_, addP_rise (p :: a) b ha hb.tail⟩
        refine addP_above ?_ hb.head
        intro x hx
        rcases List.mem_cons.1 hx with e | e
        · subst e; exact h
        · have := ha.head x e; omega
      · rename_i h1 h2
        have e : p.1 = q.1 := by omega
        split
        · exact addP_rise a b ha.tail hb.tail
        · refine List.pairwise_cons.2 ⟨?_, addP_rise a b ha.tail hb.tail⟩
          exact addP_above ha.head (by rw [e]; exact hb.head)
termination_by a b => a.length + b.length
theorem addP_coef : ∀ (a b : List (Nat × Int)), Rise a → Rise b → ∀ v, coef (addP a b) v = coef a v + coef b v
  | [], b, _, _, v => by rw [addP, coef, Int.zero_add]
  | p :: a, [], _, _, v => by rw [addP, show coef [] v = 0 from rfl, Int.add_zero]
  | p :: a, q :: b, ha, hb, v => by
    rw [addP]
    split
    · rename_i h
      rw [coef, addP_coef a (q :: b) ha.tail hb v]
      by_cases hv : p.1 = v
      · subst hv
        rw [if_pos rfl, show coef (p :: a) p.1 = p.2 from by rw [coef, if_pos rfl], coef_low (l := q :: b), Int.add_zero]
        intro x hx
        rcases List.mem_cons.1 hx with e | e
        · subst e; exact h
        · have := hb.head x e; omega
      · rw [if_neg hv, show coef (p :: a) v = coef a v from by rw [coef, if_neg hv]]
    · split
      · rename_i h1 h
        rw [coef, addP_coef (p :: a) b ha hb.tail v]
        by_cases hv : q.1 = v
        · subst hv
          rw [if_pos rfl, show coef (q :: b) q.1 = q.2 from by rw [coef, if_pos rfl], coef_low (l := p :: a), Int.zero_add]
          intro x hx
          rcases List.mem_cons.1 hx with e | e
          · subst e; exact h
          · have := ha.head x e; omega
        · rw [if_neg hv, show coef (q :: b) v = coef b v from by rw [coef, if_neg hv]]
      · rename_i h1 h2
        have e : p.1 = q.1 := by omega
        by_cases hv : p.1 = v
        · have k1 : coef (p :: a) v = p.2 := by rw [coef, if_pos hv]
          have k2 : coef (q :: b) v = q.2 := by rw [coef, if_pos (by rw [← e]; exact hv)]
          rw [k1, k2]
          split
          · rename_i h0
            rw [addP_coef a b ha.tail hb.tail v, h0, coef_low (by rw [← hv]; exact ha.head), coef_low (by rw [← hv, e]; exact hb.head)]; rfl
          · rw [coef, if_pos hv]
        · have k1 : coef (p :: a) v = coef a v := by rw [coef, if_neg hv]
          have k2 : coef (q :: b) v = coef b v := by rw [coef, if_neg (by rw [← e]; exact hv)]
          rw [k1, k2]
          split
          · exact addP_coef a b ha.tail hb.tail v
          · rw [coef, if_neg hv]; exact addP_coef a b ha.tail hb.tail v
termination_by a b => a.length + b.length
/-- No coefficient of both together is too large. -/
def addFits (a b : List (Nat × Int)) : Prop := ∀ v, (coef a v + coef b v).natAbs < lim
theorem addP_nz : ∀ (a b : List (Nat × Int)), (∀ p ∈ a, p.2 ≠ 0) → (∀ p ∈ b, p.2 ≠ 0) → ∀ x ∈ addP a b, x.2 ≠ 0
  | [], b, _, hb, x, hx => by rw [addP] at hx; exact hb x hx
  | p :: a, [], ha, _, x, hx => by rw [addP] at hx; exact ha x hx
  | p :: a, q :: b, ha, hb, x, hx => by
    have ta : ∀ p ∈ a, p.2 ≠ 0 := fun p hp => ha p (List.mem_cons_of_mem _ hp)
    have tb : ∀ p ∈ b, p.2 ≠ 0 := fun p hp => hb p (List.mem_cons_of_mem _ hp)
    rw [addP] at hx
    split at hx
    · rcases List.mem_cons.1 hx with e | e
      · subst e; exact ha _ (List.mem_cons_self ..)
      · exact addP_nz a (q :: b) ta hb x e
    · split at hx
      · rcases List.mem_cons.1 hx with e | e
        · subst e; exact hb _ (List.mem_cons_self ..)
        · exact addP_nz (p :: a) b ha tb x e
      · split at hx
        · exact addP_nz a b ta tb x hx
        · rename_i h0
          rcases List.mem_cons.1 hx with e | e
          · subst e; exact h0
          · exact addP_nz a b ta tb x e
termination_by a b => a.length + b.length
theorem addP_fine {a b : List (Nat × Int)} (ha : Fine a) (hb : Fine b) (hf : addFits a b) : Fine (addP a b) := by
  refine ⟨addP_rise a b ha.1 hb.1, fun x hx => ⟨addP_nz a b (fun p hp => (ha.2 p hp).1) (fun p hp => (hb.2 p hp).1) x hx, ?_, ?_⟩⟩
  · have := coef_mem (addP_rise a b ha.1 hb.1) hx
    rw [addP_coef a b ha.1 hb.1] at this
    rw [← this]
    exact hf x.1
  · rcases addP_mem a b x hx with ⟨p, h1, h2⟩ | ⟨p, h1, h2⟩
    · rw [← h2]; exact (ha.2 p h1).2.2
    · rw [← h2]; exact (hb.2 p h1).2.2
/-- Taken by a number. -/
def mulP (l : List (Nat × Int)) (k : Int) : List (Nat × Int) := l.map fun p => (p.1, p.2 * k)
theorem mulP_rise {l : List (Nat × Int)} (h : Rise l) (k : Int) : Rise (mulP l k) := by
  unfold Rise mulP
  rw [List.pairwise_map]
  exact h
theorem mulP_fine {l : List (Nat × Int)} (h : Fine l) {k : Int} (hk : k ≠ 0) (hf : ∀ p ∈ l, (p.2 * k).natAbs < lim) : Fine (mulP l k) := by
  refine ⟨mulP_rise h.1 k, fun x hx => ?_⟩
  obtain ⟨p, hp, rfl⟩ := List.mem_map.1 hx
  exact ⟨Int.mul_ne_zero (h.2 p hp).1 hk, hf p hp, (h.2 p hp).2.2⟩
theorem negP_fine {l : List (Nat × Int)} (h : Fine l) : Fine (mulP l (-1)) := mulP_fine h (by decide) fun p hp => by
  have := (h.2 p hp).2.1
  rw [Int.mul_neg, Int.mul_one, Int.natAbs_neg]; exact this
theorem addP_lt {p q : Nat × Int} {a b : List (Nat × Int)} (h : p.1 < q.1) : addP (p :: a) (q :: b) = p :: addP a (q :: b) := by rw [addP, if_pos h]
theorem addP_gt {p q : Nat × Int} {a b : List (Nat × Int)} (h : q.1 < p.1) : addP (p :: a) (q :: b) = q :: addP (p :: a) b := by rw [addP, if_neg (by omega), if_pos h]
theorem addP_zero {p q : Nat × Int} {a b : List (Nat × Int)} (h : p.1 = q.1) (h0 : p.2 + q.2 = 0) : addP (p :: a) (q :: b) = addP a b := by rw [addP, if_neg (by omega), if_neg (by omega), if_pos h0]
theorem addP_sum {p q : Nat × Int} {a b : List (Nat × Int)} (h : p.1 = q.1) (h0 : p.2 + q.2 ≠ 0) : addP (p :: a) (q :: b) = (p.1, p.2 + q.2) :: addP a b := by rw [addP, if_neg (by omega), if_neg (by omega), if_neg h0]
theorem fine_coef {l : List (Nat × Int)} (h : Fine l) (v : Nat) : (coef l v).natAbs < lim := by
  by_cases h0 : coef l v = 0
  · rw [h0]; exact lim_pos
  · obtain ⟨p, h1, _, h3⟩ := coef_ne h0
    rw [← h3]; exact (h.2 p h1).2.1
theorem fits_nil_left {b : List (Nat × Int)} (h : Fine b) : addFits [] b := fun v => by rw [coef, Int.zero_add]; exact fine_coef h v
theorem fits_nil_right {b : List (Nat × Int)} (h : Fine b) : addFits b [] := fun v => by rw [show coef [] v = 0 from rfl, Int.add_zero]; exact fine_coef h v
theorem coef_head {p : Nat × Int} {a : List (Nat × Int)} : coef (p :: a) p.1 = p.2 := by rw [coef, if_pos rfl]
theorem coef_tail {p : Nat × Int} {a : List (Nat × Int)} {v : Nat} (h : p.1 ≠ v) : coef (p :: a) v = coef a v := by rw [coef, if_neg h]
theorem fits_lt {p q : Nat × Int} {a b : List (Nat × Int)} (ha : Fine (p :: a)) (hb : Fine (q :: b)) (h : p.1 < q.1) : addFits (p :: a) (q :: b) ↔ addFits a (q :: b) := by
  have hq : coef (q :: b) p.1 = 0 := coef_low fun x hx => by
    rcases List.mem_cons.1 hx with e | e
    · subst e; exact h
    · have := hb.1.head x e; omega
  constructor
  · intro k v
    by_cases hv : p.1 = v
    · subst hv; rw [hq, Int.add_zero]; exact fine_coef ha.tail _
    · have := k v; rwa [coef_tail hv] at this
  · intro k v
    by_cases hv : p.1 = v
    · subst hv; rw [hq, Int.add_zero]; exact fine_coef ha _
    · have := k v; rwa [coef_tail hv]
theorem addFits_comm {a b : List (Nat × Int)} : addFits a b ↔ addFits b a := ⟨fun h v => by rw [Int.add_comm]; exact h v, fun h v => by rw [Int.add_comm]; exact h v⟩
theorem fits_gt {p q : Nat × Int} {a b : List (Nat × Int)} (ha : Fine (p :: a)) (hb : Fine (q :: b)) (h : q.1 < p.1) : addFits (p :: a) (q :: b) ↔ addFits (p :: a) b := by
  rw [addFits_comm, fits_lt hb ha h, addFits_comm]
theorem fits_eq {p q : Nat × Int} {a b : List (Nat × Int)} (ha : Fine (p :: a)) (hb : Fine (q :: b)) (h : p.1 = q.1) : addFits (p :: a) (q :: b) ↔ (p.2 + q.2).natAbs < lim ∧ addFits a b := by
  have e1 : coef (q :: b) p.1 = q.2 := by rw [h, coef_head]
  have z1 : coef a p.1 = 0 := coef_low ha.1.head
  have z2 : coef b p.1 = 0 := coef_low (by rw [h]; exact hb.1.head)
  constructor
  · intro k
    refine ⟨?_, fun v => ?_⟩
    · have := k p.1; rwa [coef_head, e1] at this
    · by_cases hv : p.1 = v
      · subst hv; rw [z1, z2]; exact lim_pos
      · have := k v; rwa [coef_tail hv, coef_tail (by rw [← h]; exact hv)] at this
  · rintro ⟨k1, k2⟩ v
    by_cases hv : p.1 = v
    · subst hv; rw [coef_head, e1]; exact k1
    · rw [coef_tail hv, coef_tail (by rw [← h]; exact hv)]; exact k2 v
end Go.Proofs.YteefniagebcagaaGreatDoor
/- A region that draws its order, by what holds at any time: one step for each operation, whatever came ahead of it; no statement of the seat is proved here. -/
namespace Go.Proofs.YteefniagebcagaaGreatDoor
open Go Go.RowKit

/-- All that the operation waits for is listed. -/
def Aft (o : Oper) (L : Nat → Bool) : Bool := o.after.toList.all fun e => !Region.binds .any e || L e.on
/-- One step, whenever operation k may come up. -/
def StepOK (P : Program) (ops : Array Oper) (Q : Exit → Act → World → Prop) (I : (Nat → Bool) → Act → World → Prop) (k : Nat) (o : Oper) : Prop :=
  ∀ L a w, I L a w → L k = false → Aft o L = true → ∀ K : Act → World → Prop, (∀ a' w', I (fun j => j == k || L j) a' w' → K a' w') →
    if Region.wanted o (yielded ops a.tmps) = true then Oper.wp P o a w K Q else K (a.put o.dst undef) w
def StepsOK (P : Program) (ops : Array Oper) (Q : Exit → Act → World → Prop) (I : (Nat → Bool) → Act → World → Prop) : Nat → List Oper → Prop
  | _, [] => True
  | k, o :: os => StepOK P ops Q I k o ∧ StepsOK P ops Q I (k + 1) os
/-- What is waited for stands ahead. -/
def inOrder : Nat → List Oper → Bool
  | _, [] => true
  | k, o :: os => (o.after.toList.all fun e => !Region.binds .any e || decide (e.on < k)) && inOrder (k + 1) os

theorem cnt_lt {p q : Nat → Bool} : ∀ {l : List Nat}, (∀ x, p x = true → q x = true) → ∀ {i : Nat}, i ∈ l → q i = true → p i = false → l.countP p < l.countP q
  | [], _, _, hi, _, _ => by cases hi
  | x :: l, h, i, hi, hq, hp => by
    have hle : l.countP p ≤ l.countP q := List.countP_mono_left (fun y _ hy => h y hy)
    rcases List.mem_cons.1 hi with e | e
    · subst e
      simp only [List.countP_cons, hq, hp]
      simp
      omega
    · have ih := cnt_lt (l := l) h e hq hp
      simp only [List.countP_cons]
      cases hx : p x with
      | false => simp; split <;> omega
      | true => simp [h x hx]; omega

theorem steps_at {P : Program} {ops : Array Oper} {Q : Exit → Act → World → Prop} {I : (Nat → Bool) → Act → World → Prop} : ∀ {l : List Oper} {k i : Nat} {o : Oper}, StepsOK P ops Q I k l → l[i]? = some o → StepOK P ops Q I (k + i) o
  | [], _, _, _, _, h => by simp at h
  | x :: l, k, 0, o, h, hi => by simp at hi; subst hi; exact h.1
  | x :: l, k, i + 1, o, h, hi => by
    have := steps_at (i := i) h.2 (by simpa using hi)
    rw [Nat.add_assoc, Nat.add_comm 1 i] at this
    exact this
theorem order_at : ∀ {l : List Oper} {k i : Nat} {o : Oper}, inOrder k l = true → l[i]? = some o → (o.after.toList.all fun e => !Region.binds .any e || decide (e.on < k + i)) = true
  | [], _, _, _, _, h => by simp at h
  | x :: l, k, 0, o, h, hi => by
    simp at hi; subst hi
    unfold inOrder at h
    exact (Bool.and_eq_true_iff.1 h).1
  | x :: l, k, i + 1, o, h, hi => by
    unfold inOrder at h
    have := order_at (i := i) (Bool.and_eq_true_iff.1 h).2 (by simpa using hi)
    rw [Nat.add_assoc, Nat.add_comm 1 i] at this
    exact this

theorem ready_iff {ops : Array Oper} {listed : Array Bool} {i : Nat} : i ∈ Region.ready .any ops listed ↔ i < ops.size ∧ listed.getD i true = false ∧ ∃ o, ops[i]? = some o ∧ Aft o (fun j => listed.getD j false) = true := by
  unfold Region.ready Aft
  simp only [List.mem_filter, List.mem_range, Bool.and_eq_true, Bool.not_eq_true']
  constructor
  · rintro ⟨h1, h2, h3⟩
    refine ⟨h1, h2, ops[i], by simp [h1], ?_⟩
    simpa [h1] using h3
  · rintro ⟨h1, h2, o, h3, h4⟩
    refine ⟨h1, h2, ?_⟩
    rw [h3]
    simpa using h4

theorem wpAny_inv {P : Program} {ops : Array Oper} {Q : Exit → Act → World → Prop} (I : (Nat → Bool) → Act → World → Prop) (hord : inOrder 0 ops.toList = true) (hs : StepsOK P ops Q I 0 ops.toList)
    (hd : ∀ L a w, I L a w → (∀ i, i < ops.size → L i = true) → Q .normal a w) : ∀ (fuel : Nat) (listed : Array Bool) (a : Act) (w : World), listed.size = ops.size → (List.range ops.size).countP (fun i => !listed.getD i true) ≤ fuel → I (fun j => listed.getD j false) a w → wpAny P .any ops Q fuel listed a w := by
  have same : ∀ (listed : Array Bool) i, i < listed.size → listed.getD i true = listed.getD i false := by
    intro listed i hi
    simp [Array.getD, hi]
  have none_ready : ∀ (listed : Array Bool), listed.size = ops.size → Region.ready .any ops listed = [] → ∀ i, i < ops.size → listed.getD i false = true := by
    intro listed hsz hr i
    induction i using Nat.strongRecOn with
    | ind i ih =>
      intro hi
      cases hb : listed.getD i false with
      | true => rfl
      | false =>
        exfalso
        have ho : ops[i]? = some ops[i] := by simp [hi]
        have h1 := order_at (i := i) (o := ops[i]) hord (by rw [Array.getElem?_toList]; exact ho)
        have : i ∈ Region.ready .any ops listed := by
          refine ready_iff.2 ⟨hi, by rw [same listed i (by omega)]; exact hb, ops[i], ho, ?_⟩
          unfold Aft
          rw [List.all_eq_true] at h1 ⊢
          intro e he
          have h2 := h1 e he
          simp only [Bool.or_eq_true, decide_eq_true_eq, Nat.zero_add] at h2 ⊢
          rcases h2 with h2 | h2
          · exact Or.inl h2
          · exact Or.inr (ih e.on h2 (by omega))
        rw [hr] at this
        cases this
  intro fuel
  induction fuel with
  | zero =>
    intro listed a w hsz hc hI
    have hall : ∀ i, i < ops.size → listed.getD i true = true := by
      intro i hi
      have h0 := Nat.le_zero.1 hc
      rw [List.countP_eq_zero] at h0
      have := h0 i (List.mem_range.2 hi)
      simpa using this
    refine ⟨?_, hd _ _ _ hI (fun i hi => by rw [← same listed i (by omega)]; exact hall i hi)⟩
    rw [List.eq_nil_iff_forall_not_mem]
    intro i hi
    obtain ⟨h1, h2, _⟩ := ready_iff.1 hi
    rw [hall i h1] at h2
    cases h2
  | succ fuel ih =>
    intro listed a w hsz hc hI
    refine ⟨fun hr => hd _ _ _ hI (none_ready listed hsz hr), fun i hi => ?_⟩
    obtain ⟨h1, h2, o, ho, haf⟩ := ready_iff.1 hi
    have hst := steps_at (i := i) hs (by simpa using ho)
    rw [Nat.zero_add] at hst
    refine wpOp_step ho (fun K hK => hst _ a w hI (by rw [← same listed i (by omega)]; exact h2) haf K (fun a' w' h' => hK a' w' ?_))
    refine ih _ a' w' (by simpa using hsz) ?_ ?_
    · have := cnt_lt (p := fun j => !(listed.setIfInBounds i true).getD j true) (q := fun j => !listed.getD j true) (l := List.range ops.size) (i := i) ?_ (List.mem_range.2 h1) (by simp [h2]) ?_
      · omega
      · intro x hx
        by_cases hxi : x = i
        · subst hxi; simp [h2]
        · simp only [Bool.not_eq_true'] at hx ⊢
          by_cases hxs : x < listed.size
          · simp [Array.getD, hxs, Ne.symm hxi] at hx ⊢; exact hx
          · simp [Array.getD, hxs] at hx
      · simp [Array.getD, show i < listed.size by omega]
    · have e : (fun j => (listed.setIfInBounds i true).getD j false) = (fun j => j == i || listed.getD j false) := by
        funext x
        by_cases hxi : x = i
        · subst hxi; simp [Array.getD, show x < listed.size by omega]
        · by_cases hxs : x < listed.size
          · simp [Array.getD, hxs, Ne.symm hxi, hxi]
          · simp [Array.getD, hxs, hxi]
      rw [e]
      exact h'

/-- A region that draws its order, by what holds at any time. -/
theorem wp_region_inv {P : Program} {ops : Array Oper} {Q : Exit → Act → World → Prop} {id : Nat} {a : Act} {w : World} (hm : P.follows .mixedOrders = true) (I : (Nat → Bool) → Act → World → Prop)
    (hord : inOrder 0 ops.toList = true) (h0 : I (fun _ => false) a w.drew) (hd : ∀ L a w, I L a w → (∀ i, i < ops.size → L i = true) → Q .normal a w) (hs : StepsOK P ops Q I 0 ops.toList) : (Code.region id ops true).wp P Q a w := by
  refine wp_region_any hm (wpAny_inv I hord hs hd ops.size _ a _ (by simp) ?_ ?_)
  · refine Nat.le_trans List.countP_le_length ?_
    simp
  · have e : (fun j => (Array.replicate ops.size false).getD j false) = fun _ => false := by
      funext x
      simp [Array.getD]
    rw [e]
    exact h0

/-- Slot s holds v from now on. -/
def upd (U : Nat → Value) (s : Nat) (v : Value) : Nat → Value := fun t => bif t == s then v else U t
/-- The frame a, with what U says in the slots. -/
def putAll (a : Act) (slots : List Nat) (U : Nat → Value) : Act := slots.foldl (fun b s => b.put (some s) (U s)) a
theorem putAll_self (a : Act) : ∀ (slots : List Nat), putAll a slots (fun s => a.tmps.getD s undef) = a := by
  intro slots
  induction slots with
  | nil => rfl
  | cons s l ih =>
    have e : a.put (some s) (a.tmps.getD s undef) = a := by
      unfold Act.put
      simp only
      have : a.tmps.setIfInBounds s (a.tmps.getD s undef) = a.tmps := by
        apply Array.ext
        · simp
        · intro i h1 h2
          rw [Array.getElem_setIfInBounds]
          split
          · rename_i h; subst h; simp [Array.getD, h2]
          · rfl
      rw [this]
    unfold putAll at ih ⊢
    rw [List.foldl_cons, e]
    exact ih

/-- A region that draws its order: what its slots hold (U) and the world, by what is listed (L). -/
def StepU (P : Program) (ops : Array Oper) (Q : Exit → Act → World → Prop) (a : Act) (slots : List Nat) (F : (Nat → Bool) → (Nat → Value) → World → Prop) (k : Nat) (o : Oper) : Prop :=
  ∀ L U w, F L U w → L k = false → Aft o L = true → ∀ K : Act → World → Prop, (∀ U' a' w', a' = putAll a slots U' → F (fun j => j == k || L j) U' w' → K a' w') →
    if Region.wanted o (yielded ops (putAll a slots U).tmps) = true then Oper.wp P o (putAll a slots U) w K Q else K ((putAll a slots U).put o.dst undef) w
def StepsU (P : Program) (ops : Array Oper) (Q : Exit → Act → World → Prop) (a : Act) (slots : List Nat) (F : (Nat → Bool) → (Nat → Value) → World → Prop) : Nat → List Oper → Prop
  | _, [] => True
  | k, o :: os => StepU P ops Q a slots F k o ∧ StepsU P ops Q a slots F (k + 1) os
theorem StepsU.nil {P : Program} {ops : Array Oper} {Q : Exit → Act → World → Prop} {a : Act} {slots : List Nat} {F : (Nat → Bool) → (Nat → Value) → World → Prop} {k : Nat} : StepsU P ops Q a slots F k [] := trivial
theorem StepsU.plain {P : Program} {ops : Array Oper} {Q : Exit → Act → World → Prop} {a : Act} {slots : List Nat} {F : (Nat → Bool) → (Nat → Value) → World → Prop} {k : Nat} {o : Oper} {os : List Oper} (hg : o.guard = none)
    (h : ∀ L U w, F L U w → L k = false → Aft o L = true → ∀ K : Act → World → Prop, (∀ U' a' w', a' = putAll a slots U' → F (fun j => j == k || L j) U' w' → K a' w') → Oper.wp P o (putAll a slots U) w K Q)
    (hs : StepsU P ops Q a slots F (k + 1) os) : StepsU P ops Q a slots F k (o :: os) := by
  refine ⟨fun L U w hF hL haf K hK => ?_, hs⟩
  have hw : Region.wanted o (yielded ops (putAll a slots U).tmps) = true := by simp [Region.wanted, hg]
  rw [if_pos hw]
  exact h L U w hF hL haf K hK
/-- A goal that is not looked into. -/
structure Gate (p : Prop) : Prop where
  out : p
theorem StepsU.run {P : Program} {ops : Array Oper} {Q : Exit → Act → World → Prop} {a : Act} {slots : List Nat} {F : (Nat → Bool) → (Nat → Value) → World → Prop} {k : Nat} {o : Oper} {os : List Oper} (hg : o.guard = none)
    (h : ∀ L U w, F L U w → L k = false → Aft o L = true → ∀ (A : Act) (K : Act → World → Prop), A = putAll a slots U → (∀ U' a' w', a' = putAll a slots U' → F (fun j => j == k || L j) U' w' → K a' w') → Gate (Oper.wp P o A w K Q))
    (hs : StepsU P ops Q a slots F (k + 1) os) : StepsU P ops Q a slots F k (o :: os) :=
  StepsU.plain hg (fun L U w hF hL haf K hK => (h L U w hF hL haf _ K rfl hK).out) hs
theorem rd {A a : Act} {slots : List Nat} {U : Nat → Value} (hA : A = putAll a slots U) (s : Nat) (h : (putAll a slots U).tmps[s]? = some (U s)) {v : Value} (hv : U s = v) : A.tmps[s]? = some v := by rw [hA, h, hv]
theorem StepsU.steps {P : Program} {ops : Array Oper} {Q : Exit → Act → World → Prop} {a : Act} {slots : List Nat} {F : (Nat → Bool) → (Nat → Value) → World → Prop} : ∀ {l : List Oper} {k : Nat}, StepsU P ops Q a slots F k l →
    StepsOK P ops Q (fun L a' w' => ∃ U, a' = putAll a slots U ∧ F L U w') k l
  | [], _, _ => trivial
  | o :: l, k, h => by
    refine ⟨?_, h.2.steps⟩
    rintro L _ w' ⟨U, rfl, hF⟩ hL haf K hK
    exact h.1 L U w' hF hL haf K (fun U' a' w'' e hF' => hK a' w'' ⟨U', e, hF'⟩)
theorem wp_region_U {P : Program} {ops : Array Oper} {Q : Exit → Act → World → Prop} {id : Nat} {a : Act} {w : World} (hm : P.follows .mixedOrders = true) (slots : List Nat) (F : (Nat → Bool) → (Nat → Value) → World → Prop)
    (hord : inOrder 0 ops.toList = true) (h0 : ∀ U, F (fun _ => false) U w.drew) (hs : StepsU P ops Q a slots F 0 ops.toList) (hd : ∀ L U w', (∀ i, i < ops.size → L i = true) → F L U w' → Q .normal (putAll a slots U) w') : (Code.region id ops true).wp P Q a w := by
  refine wp_region_inv hm (fun L a' w' => ∃ U, a' = putAll a slots U ∧ F L U w') hord ⟨_, (putAll_self a slots).symm, h0 _⟩ ?_ hs.steps
  rintro L _ w' ⟨U, rfl, hF⟩ hall
  exact hd L U w' hall hF
/-- A frame's slots, those of the mask by U. -/
def setM (U : Nat → Value) : List (Option Nat) → List Value → List Value
  | [], l => l
  | some s :: m, _ :: l => U s :: setM U m l
  | none :: m, v :: l => v :: setM U m l
  | _ :: _, [] => []
theorem setM_nil (U : Nat → Value) (l : List Value) : setM U [] l = l := by unfold setM; rfl
theorem setM_some (U : Nat → Value) (s : Nat) (m : List (Option Nat)) (v : Value) (l : List Value) : setM U (some s :: m) (v :: l) = U s :: setM U m l := by rw [setM]
theorem setM_none (U : Nat → Value) (m : List (Option Nat)) (v : Value) (l : List Value) : setM U (none :: m) (v :: l) = v :: setM U m l := by rw [setM]
theorem wp_region_M {P : Program} {ops : Array Oper} {Q : Exit → Act → World → Prop} {id : Nat} {l : List Value} {d : List Deferred} {w : World} (hm : P.follows .mixedOrders = true) (slots : List Nat) (mask : List (Option Nat)) (hmask : ∀ U, putAll ⟨l.toArray, d⟩ slots U = ⟨(setM U mask l).toArray, d⟩) (F : (Nat → Bool) → (Nat → Value) → World → Prop)
    (hord : inOrder 0 ops.toList = true) (h0 : ∀ U, F (fun _ => false) U w.drew) (hs : StepsU P ops Q ⟨l.toArray, d⟩ slots F 0 ops.toList) (hd : ∀ L U w', (∀ i, i < ops.size → L i = true) → F L U w' → Q .normal ⟨(setM U mask l).toArray, d⟩ w') : (Code.region id ops true).wp P Q ⟨l.toArray, d⟩ w := by
  refine wp_region_U hm slots F hord h0 hs (fun L U w' h1 h2 => ?_)
  rw [hmask]
  exact hd L U w' h1 h2
/-- The same, with what the slots hold ahead. -/
theorem wp_region_U2 {P : Program} {ops : Array Oper} {Q : Exit → Act → World → Prop} {id : Nat} {a : Act} {w : World} (hm : P.follows .mixedOrders = true) (slots : List Nat) (F : (Nat → Bool) → (Nat → Value) → World → Prop)
    (hord : inOrder 0 ops.toList = true) (h0 : F (fun _ => false) (fun s => a.tmps.getD s undef) w.drew) (hs : StepsU P ops Q a slots F 0 ops.toList) (hd : ∀ L U w', (∀ i, i < ops.size → L i = true) → F L U w' → Q .normal (putAll a slots U) w') : (Code.region id ops true).wp P Q a w := by
  refine wp_region_inv hm (fun L a' w' => ∃ U, a' = putAll a slots U ∧ F L U w') hord ⟨_, (putAll_self a slots).symm, h0⟩ ?_ hs.steps
  rintro L _ w' ⟨U, rfl, hF⟩ hall
  exact hd L U w' hall hF
theorem wp_region_M2 {P : Program} {ops : Array Oper} {Q : Exit → Act → World → Prop} {id : Nat} {l : List Value} {d : List Deferred} {w : World} (hm : P.follows .mixedOrders = true) (slots : List Nat) (mask : List (Option Nat)) (hmask : ∀ U, putAll ⟨l.toArray, d⟩ slots U = ⟨(setM U mask l).toArray, d⟩) (F : (Nat → Bool) → (Nat → Value) → World → Prop)
    (hord : inOrder 0 ops.toList = true) (h0 : F (fun _ => false) (fun s => l.toArray.getD s undef) w.drew) (hs : StepsU P ops Q ⟨l.toArray, d⟩ slots F 0 ops.toList) (hd : ∀ L U w', (∀ i, i < ops.size → L i = true) → F L U w' → Q .normal ⟨(setM U mask l).toArray, d⟩ w') : (Code.region id ops true).wp P Q ⟨l.toArray, d⟩ w := by
  refine wp_region_U2 hm slots F hord h0 hs (fun L U w' h1 h2 => ?_)
  rw [hmask]
  exact hd L U w' h1 h2
end Go.Proofs.YteefniagebcagaaGreatDoor
