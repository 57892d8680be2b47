/- Contracts of math/bits' functions (Add32, Sub32, Len32, LeadingZeros32) and of arith's splitWord, joinWord; they prove no statement of the seat. -/
import Derived.Test.YtlonnhnfmcndfadLeafJGcd
import Derived.Lib.BitFns
namespace Go.Proofs.Ytlonnhnfmcndfad
open Go.RowKit

theorem testBit31 (n : Nat) (h : n < 4294967296) : n.testBit 31 = decide (2147483648 ≤ n) := by
  rw [Nat.testBit_eq_decide_div_mod_eq]
  congr 1
  apply propext
  constructor <;> intro h' <;> omega

theorem div31 (n : Nat) (h : n < 4294967296) : n / 2147483648 = (n.testBit 31).toNat := by
  rw [testBit31 n h]
  by_cases h' : 2147483648 ≤ n
  · simp [h']; omega
  · simp [h']; omega

/-- The borrow as the text has it, and as it is. -/
theorem borrow_eq (x y b : Nat) (hx : x < 4294967296) (hy : y < 4294967296) (hb : b ≤ 1) :
    (((4294967295 ^^^ x) &&& y) ||| ((4294967295 ^^^ (x ^^^ y)) &&& ((x + 4294967296 - y - b) % 4294967296))) / 2147483648 = if x < y + b then 1 else 0 := by
  have hd : (x + 4294967296 - y - b) % 4294967296 < 4294967296 := Nat.mod_lt _ (by decide)
  have hM : (4294967295 : Nat) < 2 ^ 32 := by decide
  have hx' : x < 2 ^ 32 := hx
  have hy' : y < 2 ^ 32 := hy
  have hd' : (x + 4294967296 - y - b) % 4294967296 < 2 ^ 32 := hd
  have l1 : ((4294967295 ^^^ x) &&& y) < 2 ^ 32 := Nat.and_lt_two_pow _ hy'
  have l2 : ((4294967295 ^^^ (x ^^^ y)) &&& ((x + 4294967296 - y - b) % 4294967296)) < 2 ^ 32 := Nat.and_lt_two_pow _ hd'
  have l3 := Nat.or_lt_two_pow l1 l2
  rw [div31 _ l3]
  simp only [Nat.testBit_or, Nat.testBit_and, Nat.testBit_xor, testBit31 x hx, testBit31 y hy, testBit31 _ hd, testBit31 4294967295 hM]
  by_cases c1 : 2147483648 ≤ x <;> by_cases c2 : 2147483648 ≤ y <;> by_cases c3 : 2147483648 ≤ (x + 4294967296 - y - b) % 4294967296 <;> by_cases c4 : x < y + b <;> simp [c1, c2, c3, c4] <;> omega

theorem sub32_num (x y b : Nat) (hx : x < 4294967296) (hy : y < 4294967296) (hb : b ≤ 1) :
    (bits BinOp.or IntKind.u32 (bits BinOp.and IntKind.u32 (bits BinOp.xor IntKind.u32 (if IntKind.u32.signed = true then -1 else IntKind.u32.max) (x : Int)) (y : Int))
      (bits BinOp.and IntKind.u32 (bits BinOp.xor IntKind.u32 (if IntKind.u32.signed = true then -1 else IntKind.u32.max) (bits BinOp.xor IntKind.u32 (x : Int) (y : Int))) (((x : Int) - y - b) % 4294967296))) / 2147483648
      = ((if x < y + b then 1 else 0 : Nat) : Int) := by
  have e0 : (if IntKind.u32.signed = true then -1 else IntKind.u32.max) = ((4294967295 : Nat) : Int) := by decide
  have e1 : ((x : Int) - y - b) % 4294967296 = (((x + 4294967296 - y - b) % 4294967296 : Nat) : Int) := by omega
  have hM : (4294967295 : Nat) < 2 ^ 32 := by decide
  have l1 : (4294967295 ^^^ x) < 2 ^ 32 := Nat.xor_lt_two_pow hM hx
  have l2 : (x ^^^ y) < 2 ^ 32 := Nat.xor_lt_two_pow hx hy
  have l3 : (4294967295 ^^^ (x ^^^ y)) < 2 ^ 32 := Nat.xor_lt_two_pow hM l2
  have hd : (x + 4294967296 - y - b) % 4294967296 < 2 ^ 32 := Nat.mod_lt _ (by decide)
  have l4 : ((4294967295 ^^^ x) &&& y) < 2 ^ 32 := Nat.and_lt_two_pow _ hy
  have l5 : ((4294967295 ^^^ (x ^^^ y)) &&& ((x + 4294967296 - y - b) % 4294967296)) < 2 ^ 32 := Nat.and_lt_two_pow _ hd
  rw [e0, e1, u32_xor_nat _ _ hM hx, u32_and_nat _ _ l1 hy, u32_xor_nat _ _ hx hy, u32_xor_nat _ _ hM l2, u32_and_nat _ _ l3 hd,
    u32_or_nat _ _ l4 l5]
  rw [← borrow_eq x y b hx hy hb]
  rfl

set_option maxRecDepth 100000 in
set_option maxHeartbeats 400000 in
theorem sub32_any (x y b : Nat) (w : World) (hx : (x : Int) < 4294967296) (hy : (y : Int) < 4294967296) (hb : b ≤ 1) :
    Calls Try.prog 57 #[.int .u32 x, .int .u32 y, .int .u32 b] w fun e w' =>
      e = .returned (.tuple #[.int .u32 (((x + 4294967296 - y - b) % 4294967296 : Nat) : Int), .int .u32 ((if x < y + b then 1 else 0 : Nat) : Int)]) ∧ w' = w := by
  have H := sub32_num x y b (by omega) (by omega) hb
  have H1 : (((x : Int) - y) % 4294967296 - b) % 4294967296 = (((x + 4294967296 - y - b) % 4294967296 : Nat) : Int) := by omega
  have HH : Hid (_ ∧ _) := ⟨H, H1⟩
  clear H H1
  go_enter Try.func57, Try.ntmps57
  iterate 81 go_step
  go_ret2
  refine ⟨?_, rfl⟩
  rw [← HH.out.1, ← HH.out.2]
  rfl

theorem Try.underlying9 : Try.prog.underlying 9 = some .string := by kernel_rfl

set_option maxHeartbeats 400000 in
theorem splitWord_any (n : Nat) (w : World) (hn : (n : Int) < 18446744073709551616) :
    Calls Try.prog 32 #[.int .u64 n] w fun e w' => e = .returned (.slice (some ⟨w.heap.size, 0, none⟩) (trimZ [n % 4294967296, n / 4294967296]).length 2) ∧ Row .u32 114 w' w.heap.size [n % 4294967296, n / 4294967296] ∧ Below w.heap.size w w' ∧ w'.heap.size = w.heap.size + 1 := by
  go_enter Try.func32, Try.ntmps32
  go_wp2_with fail
  have hr := Row.new w .u32 114 [n % 4294967296, n / 4294967296]
  refine (trimmed_any (some ⟨w.heap.size, 0, none⟩) 2 2 [n % 4294967296, n / 4294967296] _ rfl (Nat.le_refl _) (by unfold maxLen; omega) hr.all).mono ?_
  rintro e w' ⟨rfl, rfl⟩
  go_wp2
  go_ret
  refine ⟨rfl, hr, ?_, ?_⟩
  · exact (Below.refl _ _).alloc (Nat.le_refl _) _
  · simp

theorem or_join (a b : Nat) (ha : a < 4294967296) (hb : b < 4294967296) : bits BinOp.or IntKind.u64 (a : Int) (IntKind.u64.wrap (IntKind.u64.wrap (b : Int) * 2 ^ (1 * 32))) = ((a + 4294967296 * b : Nat) : Int) := by
  have e1 : IntKind.u64.wrap (IntKind.u64.wrap (b : Int) * 2 ^ (1 * 32)) = ((b * 4294967296 : Nat) : Int) := by
    rw [IntKind.wrap_u64, IntKind.wrap_u64]; omega
  rw [e1, u64_or_nat _ _ (by omega) (by omega)]
  congr 1
  have := Nat.shiftLeft_add_eq_or_of_lt (b := a) (i := 32) ha b
  rw [Nat.shiftLeft_eq] at this
  rw [Nat.or_comm, ← show b * 2 ^ 32 = b * 4294967296 from rfl, ← this]
  omega

theorem or_none (b : Nat) (hb : b < 4294967296) : bits BinOp.or IntKind.u64 ((0 : Nat) : Int) (IntKind.u64.wrap (IntKind.u64.wrap (b : Int) * 2 ^ (0 * 32))) = (b : Int) := by
  have e1 : IntKind.u64.wrap (IntKind.u64.wrap (b : Int) * 2 ^ (0 * 32)) = (b : Int) := by
    rw [IntKind.wrap_u64, IntKind.wrap_u64]; omega
  rw [e1, u64_or_nat _ _ (by omega) (by omega)]
  simp

theorem join_step (xs : List Nat) (k : Nat) (hl : xs.length ≤ 2) (h0 : k < xs.length) (hd : Digs 4294967296 xs) :
    bits BinOp.or IntKind.u64 ((val 4294967296 (xs.take k) : Nat) : Int) (IntKind.u64.wrap (IntKind.u64.wrap ((xs[k] : Nat) : Int) * 2 ^ (k * 32))) = ((val 4294967296 (xs.take (k + 1)) : Nat) : Int) := by
  have hk := hd.get (by decide) k
  rw [List.getElem?_eq_getElem h0] at hk
  simp only [Option.getD_some] at hk
  have hv : val 4294967296 (xs.take (k + 1)) = val 4294967296 (xs.take k) + 4294967296 ^ k * xs[k] := by
    rw [val_take_succ _ _ _ h0, List.getD_eq_getElem?_getD, List.getElem?_eq_getElem h0]; rfl
  rw [hv]
  have hc : k = 0 ∨ k = 1 := by omega
  rcases hc with rfl | rfl
  · simp only [List.take_zero, val_nil]
    rw [or_none _ hk]
    simp
  · have h1 := val_lt (hd.take 1)
    rw [List.length_take, Nat.min_eq_left (by omega)] at h1
    rw [or_join _ _ (by simpa using h1) hk]

set_option maxHeartbeats 400000 in
theorem joinWord_any (ao : Option Addr) (n cap : Nat) (xs : List Nat) (w : World) (hn : xs.length = n) (h1 : n ≤ 2) (hs : Seg .u32 w ao xs) (hd : Digs 4294967296 xs) :
    Calls Try.prog 38 #[.slice ao n cap] w fun e w' => e = .returned (.int .u64 (val 4294967296 xs)) ∧ w' = w := by
  subst hn
  go_enter Try.func38, Try.ntmps38
  go_wp2
  go_loop [3, 8] (fun v i => ∃ k : Nat, k ≤ xs.length ∧ i = .int .i64 k ∧ v = .int .u64 (val 4294967296 (xs.take k))) (fun v i => 2 - (intOf i).toNat)
  case atStart => exact ⟨0, by omega, rfl, rfl⟩
  case round =>
    obtain ⟨k, hk, rfl, rfl⟩ := hrel
    by_cases h0 : k < xs.length
    · obtain ⟨b, off, rfl, hc⟩ := hs.open k h0
      have hcell := hc k h0
      clear hc
      go_wp2
      go_round
      case rel => exact ⟨k + 1, by omega, by go_num, by rw [← join_step xs k h1 h0 hd]⟩
      case measure => simp [intOf]; omega
    · go_wp2
      go_ret
      refine ⟨?_, rfl⟩
      rw [List.take_of_length_le (by omega)]
      rfl
end Go.Proofs.Ytlonnhnfmcndfad
