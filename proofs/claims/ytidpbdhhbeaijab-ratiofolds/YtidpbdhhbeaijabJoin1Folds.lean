/- Joined: CmpP, Trim, Leaf, Bits: words and contracts; no statement of the seat is proved here. -/
import Derived.Test.YtidpbdhhbeaijabJoin0Folds
import Derived.Test.YtidpbdhhbeaijabProg
import Derived.Lib.BitFns
/- Plain facts on the order of digits; no program is spoken of here. -/
namespace Go.Proofs.Ytidpbdhhbeaijab

theorem val_split (B : Nat) (xs : List Nat) (k : Nat) (hk : k ≤ xs.length) : val B xs = val B (xs.take k) + B ^ k * val B (xs.drop k) := by
  have h := val_append B (xs.take k) (xs.drop k)
  rw [List.take_append_drop, List.length_take, Nat.min_eq_left hk] at h
  exact h

theorem val_lt_at {B : Nat} {xs ys : List Nat} (hx : Digs B xs) (hl : xs.length = ys.length) (j : Nat) (hj : j < xs.length) (ht : xs.drop (j + 1) = ys.drop (j + 1)) (h : xs.getD j 0 < ys.getD j 0) : val B xs < val B ys := by
  rw [val_split B xs (j + 1) (by omega), val_split B ys (j + 1) (by omega), ht, val_take_succ B xs j hj, val_take_succ B ys j (by omega)]
  have h1 := val_lt (hx.take j)
  rw [List.length_take, Nat.min_eq_left (by omega)] at h1
  have h2 : B ^ j * (xs.getD j 0 + 1) ≤ B ^ j * ys.getD j 0 := Nat.mul_le_mul_left _ h
  rw [Nat.mul_add, Nat.mul_one] at h2
  omega

/-- The order of two lists of digits: by length, then by number. -/
def cmpL (B : Nat) (xs ys : List Nat) : Int :=
  if xs.length < ys.length then -1 else if ys.length < xs.length then 1 else if val B xs < val B ys then -1 else if val B ys < val B xs then 1 else 0

/-- Without noughts at the ends it is the numbers' order. -/
theorem cmpL_norm {B : Nat} {xs ys : List Nat} (hB : 0 < B) (hx : Digs B xs) (hy : Digs B ys) (nx : Norm xs) (ny : Norm ys) : cmpL B xs ys = ((val B xs : Int) - val B ys).sign := by
  unfold cmpL
  by_cases h1 : xs.length < ys.length
  · rw [if_pos h1]
    have := val_lt_of_length hx ny hB h1
    exact (Int.sign_eq_neg_one_of_neg (by omega)).symm
  · rw [if_neg h1]
    by_cases h2 : ys.length < xs.length
    · rw [if_pos h2]
      have := val_lt_of_length hy nx hB h2
      exact (Int.sign_eq_one_of_pos (by omega)).symm
    · rw [if_neg h2]
      by_cases h3 : val B xs < val B ys
      · rw [if_pos h3]; exact (Int.sign_eq_neg_one_of_neg (by omega)).symm
      · rw [if_neg h3]
        by_cases h4 : val B ys < val B xs
        · rw [if_pos h4]; exact (Int.sign_eq_one_of_pos (by omega)).symm
        · rw [if_neg h4]
          have : (val B xs : Int) - val B ys = 0 := by omega
          rw [this]; rfl

theorem cmpL_lt {B : Nat} {xs ys : List Nat} (hl : xs.length = ys.length) (h : val B xs < val B ys) : cmpL B xs ys = -1 := by
  unfold cmpL; rw [if_neg (by omega), if_neg (by omega), if_pos h]
theorem cmpL_gt {B : Nat} {xs ys : List Nat} (hl : xs.length = ys.length) (h : val B ys < val B xs) : cmpL B xs ys = 1 := by
  unfold cmpL; rw [if_neg (by omega), if_neg (by omega), if_neg (by omega), if_pos h]
theorem cmpL_eq (B : Nat) (xs : List Nat) : cmpL B xs xs = 0 := by
  unfold cmpL; simp

theorem drop_cons_getD (xs : List Nat) (j : Nat) (hj : j < xs.length) : xs.drop j = xs.getD j 0 :: xs.drop (j + 1) := by
  rw [List.drop_eq_getElem_cons hj, List.getD_eq_getElem?_getD, List.getElem?_eq_getElem hj]
  rfl
end Go.Proofs.Ytidpbdhhbeaijab
/- The contract of arith.trimmed: the list without noughts at its end; it proves no statement of the seat. -/
namespace Go.Proofs.Ytidpbdhhbeaijab
open Go.RowKit

theorem Try.underlying23 : Try.prog.underlying 23 = some (.slice 91) := by kernel_rfl
theorem Try.underlying91 : Try.prog.underlying 91 = some (.int .u32) := by kernel_rfl
theorem Try.info91 : (Try.prog.info? 91).map (fun i => (i.zero, i.size, i.bytes)) = some (some (.int .u32 0), 1, 4) := by kernel_rfl

theorem trim_end (xs : List Nat) (j : Nat) (hj : j < xs.length) (h : ∀ i, j + 1 ≤ i → i < xs.length → xs.getD i 0 = 0) (h0 : ((xs[j]?.getD 0 : Nat) : Int) == 0 → False) :
    (trimZ xs).length = j + 1 := by
  rw [trimZ_eq_of_zeros xs (j + 1) (by omega) h, take_snoc xs j hj, trimZ_snoc_ne _ _ (fun e => h0 (by rw [List.getD_eq_getElem?_getD] at e; simp [e]))]
  simp; omega

set_option maxHeartbeats 400000 in
theorem trimmed_any (ao : Option Addr) (n cap : Nat) (xs : List Nat) (w : World) (hn : xs.length = n) (h1 : n ≤ cap) (h2 : cap ≤ maxLen) (hs : Seg .u32 w ao xs) :
    Calls Try.prog 66 #[.slice ao n cap] w fun e w' => e = .returned (.slice ao (trimZ xs).length cap) ∧ w' = w := by
  subst hn
  unfold maxLen at h2
  go_enter Try.func66, Try.ntmps66
  go_wp2
  go_loop [3] (fun n => ∃ k : Nat, k ≤ xs.length ∧ n = .int .i64 k ∧ Hid (∀ i, k ≤ i → i < xs.length → xs.getD i 0 = 0)) (fun n => (intOf n).toNat)
  case atStart => exact ⟨_, Nat.le_refl _, rfl, fun i h1 h2 => by omega⟩
  case round =>
    obtain ⟨k, hk, rfl, hz⟩ := hrel
    by_cases h0 : 0 < k
    · obtain ⟨b, off, rfl, hc⟩ := hs.open (k - 1) (by omega)
      have hcell := hc (k - 1) (by omega)
      have hkk : ∃ j, k = j + 1 := ⟨k - 1, by omega⟩
      obtain ⟨j, rfl⟩ := hkk
      simp only [Nat.add_sub_cancel] at hcell
      clear hc
      go_wp2
      · have h0' : ((xs[j]?.getD 0 : Nat) : Int) == 0 := by assumption
        go_round
        case rel =>
          refine ⟨j, by omega, rfl, fun i h1 h2 => ?_⟩
          by_cases e : i = j
          · subst e; rw [List.getD_eq_getElem?_getD]; simpa using h0'
          · exact hz.out i (by omega) h2
        case measure => simp [intOf]
      · have h0' : (((xs[j]?.getD 0 : Nat) : Int) == 0) = false := by assumption
        go_ret
        refine ⟨?_, rfl⟩
        rw [trim_end xs j (by omega) hz.out (fun h => by rw [h0'] at h; cases h)]
        rfl
    · go_wp2
      go_ret
      refine ⟨?_, rfl⟩
      have hk0 : k = 0 := by omega
      subst hk0
      rw [trimZ_eq_of_zeros xs 0 (by omega) hz.out]
      rfl
end Go.Proofs.Ytidpbdhhbeaijab
/- Contracts of arith's small functions on limbs (copied, splitWord, joinWord, bitLength, cmpLimbs, signed); they prove no statement of the seat. -/
namespace Go.Proofs.Ytidpbdhhbeaijab
open Go.RowKit

set_option maxHeartbeats 400000 in
theorem copied_any (ao : Option Addr) (n cap : Nat) (xs : List Nat) (w : World) (hn : xs.length = n) (h1 : n ≤ 10000) (hs : Seg .u32 w ao xs) :
    Calls Try.prog 60 #[.slice ao n cap] w fun e w' => e = .returned (.slice (some ⟨w.heap.size, 0, none⟩) n n) ∧ Row .u32 91 w' w.heap.size xs ∧ Below w.heap.size w w' ∧ w'.heap.size = w.heap.size + 1 := by
  have HN : Hid (xs.length = n) := hn
  clear hn
  go_enter Try.func60, Try.ntmps60
  go_wp2_with (first
    | (at_make; refine wpList_make_nums _ rfl _ _ 23 rfl 91 .u32 4 Try.underlying23 Try.info91 _ _ _ _ n rfl rfl rfl rfl (by decide) h1 ?_; intro w1 hr1 hb1 hz1)
    | (refine wpList_copy_nums rfl (.tmp 7) (.tmp 8) 23 rfl 91 .u32 4 Try.underlying23 Try.info91 _ n n ao n cap rfl rfl _ xs hr1 (by simp) HN.out (hs.below hb1) (Nat.le_refl _) ?_; intro w2 hr2 hb2 hz2))
  go_ret
  refine ⟨rfl, ?_, ?_, ?_⟩
  · simpa using hr2
  · exact hb1.trans hb2
  · omega
end Go.Proofs.Ytidpbdhhbeaijab
/- Contracts of math/bits' functions (Add32, Sub32, Len32, LeadingZeros32) and of arith's splitWord, joinWord; they prove no statement of the seat. -/
namespace Go.Proofs.Ytidpbdhhbeaijab
open Go.RowKit

theorem testBit31 (n : Nat) (h : n < 4294967296) : n.testBit 31 = decide (2147483648 ≤ n) := by
  rw [Nat.testBit_eq_decide_div_mod_eq]
  congr 1
  apply propext
  constructor <;> intro h' <;> omega

theorem div31 (n : Nat) (h : n < 4294967296) : n / 2147483648 = (n.testBit 31).toNat := by
  rw [testBit31 n h]
  by_cases h' : 2147483648 ≤ n
  · simp [h']; omega
  · simp [h']; omega

/-- The borrow as the text has it, and as it is. -/
theorem borrow_eq (x y b : Nat) (hx : x < 4294967296) (hy : y < 4294967296) (hb : b ≤ 1) :
    (((4294967295 ^^^ x) &&& y) ||| ((4294967295 ^^^ (x ^^^ y)) &&& ((x + 4294967296 - y - b) % 4294967296))) / 2147483648 = if x < y + b then 1 else 0 := by
  have hd : (x + 4294967296 - y - b) % 4294967296 < 4294967296 := Nat.mod_lt _ (by decide)
  have hM : (4294967295 : Nat) < 2 ^ 32 := by decide
  have hx' : x < 2 ^ 32 := hx
  have hy' : y < 2 ^ 32 := hy
  have hd' : (x + 4294967296 - y - b) % 4294967296 < 2 ^ 32 := hd
  have l1 : ((4294967295 ^^^ x) &&& y) < 2 ^ 32 := Nat.and_lt_two_pow _ hy'
  have l2 : ((4294967295 ^^^ (x ^^^ y)) &&& ((x + 4294967296 - y - b) % 4294967296)) < 2 ^ 32 := Nat.and_lt_two_pow _ hd'
  have l3 := Nat.or_lt_two_pow l1 l2
  rw [div31 _ l3]
  simp only [Nat.testBit_or, Nat.testBit_and, Nat.testBit_xor, testBit31 x hx, testBit31 y hy, testBit31 _ hd, testBit31 4294967295 hM]
  by_cases c1 : 2147483648 ≤ x <;> by_cases c2 : 2147483648 ≤ y <;> by_cases c3 : 2147483648 ≤ (x + 4294967296 - y - b) % 4294967296 <;> by_cases c4 : x < y + b <;> simp [c1, c2, c3, c4] <;> omega

theorem sub32_num (x y b : Nat) (hx : x < 4294967296) (hy : y < 4294967296) (hb : b ≤ 1) :
    (bits BinOp.or IntKind.u32 (bits BinOp.and IntKind.u32 (bits BinOp.xor IntKind.u32 (if IntKind.u32.signed = true then -1 else IntKind.u32.max) (x : Int)) (y : Int))
      (bits BinOp.and IntKind.u32 (bits BinOp.xor IntKind.u32 (if IntKind.u32.signed = true then -1 else IntKind.u32.max) (bits BinOp.xor IntKind.u32 (x : Int) (y : Int))) (((x : Int) - y - b) % 4294967296))) / 2147483648
      = ((if x < y + b then 1 else 0 : Nat) : Int) := by
  have e0 : (if IntKind.u32.signed = true then -1 else IntKind.u32.max) = ((4294967295 : Nat) : Int) := by decide
  have e1 : ((x : Int) - y - b) % 4294967296 = (((x + 4294967296 - y - b) % 4294967296 : Nat) : Int) := by omega
  have hM : (4294967295 : Nat) < 2 ^ 32 := by decide
  have l1 : (4294967295 ^^^ x) < 2 ^ 32 := Nat.xor_lt_two_pow hM hx
  have l2 : (x ^^^ y) < 2 ^ 32 := Nat.xor_lt_two_pow hx hy
  have l3 : (4294967295 ^^^ (x ^^^ y)) < 2 ^ 32 := Nat.xor_lt_two_pow hM l2
  have hd : (x + 4294967296 - y - b) % 4294967296 < 2 ^ 32 := Nat.mod_lt _ (by decide)
  have l4 : ((4294967295 ^^^ x) &&& y) < 2 ^ 32 := Nat.and_lt_two_pow _ hy
  have l5 : ((4294967295 ^^^ (x ^^^ y)) &&& ((x + 4294967296 - y - b) % 4294967296)) < 2 ^ 32 := Nat.and_lt_two_pow _ hd
  rw [e0, e1, u32_xor_nat _ _ hM hx, u32_and_nat _ _ l1 hy, u32_xor_nat _ _ hx hy, u32_xor_nat _ _ hM l2, u32_and_nat _ _ l3 hd,
    u32_or_nat _ _ l4 l5]
  rw [← borrow_eq x y b hx hy hb]
  rfl

set_option maxRecDepth 100000 in
set_option maxHeartbeats 400000 in
theorem sub32_any (x y b : Nat) (w : World) (hx : (x : Int) < 4294967296) (hy : (y : Int) < 4294967296) (hb : b ≤ 1) :
    Calls Try.prog 68 #[.int .u32 x, .int .u32 y, .int .u32 b] w fun e w' =>
      e = .returned (.tuple #[.int .u32 (((x + 4294967296 - y - b) % 4294967296 : Nat) : Int), .int .u32 ((if x < y + b then 1 else 0 : Nat) : Int)]) ∧ w' = w := by
  have H := sub32_num x y b (by omega) (by omega) hb
  have H1 : (((x : Int) - y) % 4294967296 - b) % 4294967296 = (((x + 4294967296 - y - b) % 4294967296 : Nat) : Int) := by omega
  have HH : Hid (_ ∧ _) := ⟨H, H1⟩
  clear H H1
  go_enter Try.func68, Try.ntmps68
  iterate 81 go_step
  go_ret2
  refine ⟨?_, rfl⟩
  rw [← HH.out.1, ← HH.out.2]
  rfl

set_option maxHeartbeats 400000 in
theorem add32_any (x y b : Nat) (w : World) (hx : (x : Int) < 4294967296) (hy : (y : Int) < 4294967296) (hb : b ≤ 1) :
    Calls Try.prog 102 #[.int .u32 x, .int .u32 y, .int .u32 b] w fun e w' => e = .returned (.tuple #[.int .u32 (((x + y + b) % 4294967296 : Nat) : Int), .int .u32 (((x + y + b) / 4294967296 : Nat) : Int)]) ∧ w' = w := by
  go_enter Try.func102, Try.ntmps102
  go_wp2
  go_ret2
  exact ⟨rfl, rfl⟩

theorem Try.underlying9 : Try.prog.underlying 9 = some .string := by kernel_rfl

theorem wpList_index_len8 {P : Program} {w : World} {ops : Array Oper} {rest : List Oper} {o : Oper} {a : Act} {Q : Exit → Act → World → Prop} (hg : o.guard = none) (s i : Operand) (t : TypeId) (hop : o.op = Op.index t s i)
    (h : P.underlying t = some .string) (S : ByteArray) (hs : a.eval s = .string S) (hS : S = Lib.len8tab) (k : IntKind) (n : Int) (hi : a.eval i = .int k n) (h0 : 0 ≤ n) (h1 : n ≤ 255)
    (hK : wpList P ops Q rest (a.put o.dst (.int .u8 (Lib.len8 n))) w) : wpList P ops Q (o :: rest) a w := by
  subst hS
  refine wpList_plain hg fun K hK' => ?_
  have hrun := Lib.run_index_len8tab (P := P) w t k n h h0 h1
  unfold Oper.wp
  simp [execOp, hop, hs, hi, hrun, Result.andThen]
  exact hK' _ _ hK

/-- The table of lengths, as the translation writes it, under the library's name. -/
theorem fold8 : ({ data := (([0, 1, 2, 2, 3, 3, 3, 3, 4, 4, 4, 4, 4, 4, 4, 4, 5, 5, 5, 5, 5, 5, 5, 5, 5, 5, 5, 5, 5, 5, 5, 5, 6, 6, 6, 6, 6, 6, 6, 6, 6, 6, 6, 6, 6, 6, 6, 6, 6, 6, 6, 6, 6, 6, 6, 6, 6, 6, 6, 6, 6, 6, 6, 6].append [7, 7, 7, 7, 7, 7, 7, 7, 7, 7, 7, 7, 7, 7, 7, 7, 7, 7, 7, 7, 7, 7, 7, 7, 7, 7, 7, 7, 7, 7, 7, 7, 7, 7, 7, 7, 7, 7, 7, 7, 7, 7, 7, 7, 7, 7, 7, 7, 7, 7, 7, 7, 7, 7, 7, 7, 7, 7, 7, 7, 7, 7, 7, 7]).append ([8, 8, 8, 8, 8, 8, 8, 8, 8, 8, 8, 8, 8, 8, 8, 8, 8, 8, 8, 8, 8, 8, 8, 8, 8, 8, 8, 8, 8, 8, 8, 8, 8, 8, 8, 8, 8, 8, 8, 8, 8, 8, 8, 8, 8, 8, 8, 8, 8, 8, 8, 8, 8, 8, 8, 8, 8, 8, 8, 8, 8, 8, 8, 8].append [8, 8, 8, 8, 8, 8, 8, 8, 8, 8, 8, 8, 8, 8, 8, 8, 8, 8, 8, 8, 8, 8, 8, 8, 8, 8, 8, 8, 8, 8, 8, 8, 8, 8, 8, 8, 8, 8, 8, 8, 8, 8, 8, 8, 8, 8, 8, 8, 8, 8, 8, 8, 8, 8, 8, 8, 8, 8, 8, 8, 8, 8, 8, 8])).toArray } : ByteArray) = Lib.len8tab := by kernel_rfl

set_option maxRecDepth 100000 in
set_option maxHeartbeats 400000 in
theorem len32_any (x : Int) (w : World) (h0 : 0 ≤ x) (h1 : x ≤ 4294967295) :
    Calls Try.prog 92 #[.int .u32 x] w fun e w' => e = .returned (.int .i64 (Lib.bitLen x.toNat)) ∧ w' = w := by
  go_enter Try.func92, Try.ntmps92
  go_wp2_with (refine wpList_index_len8 rfl _ _ 9 rfl Try.underlying9 _ rfl fold8 _ _ rfl (by omega) (by omega) ?_)
  all_goals (go_ret; refine ⟨congrArg Ending.returned (congrArg (Value.int IntKind.i64) ?_), rfl⟩)
  all_goals first
    | (rw [Lib.len8_of (x / 65536 / 256) (by omega) (by omega)]
       have e : (x / 65536 / 256).toNat = x.toNat / 16777216 := by omega
       have l := Lib.bitLen_le8' (x / 65536 / 256) (by omega) (by omega)
       have s := Lib.bitLen_shift24 x.toNat (by omega) (by omega)
       rw [e] at l ⊢
       unfold wrap64
       omega)
    | (rw [Lib.len8_of (x / 65536) (by omega) (by omega)]
       have e : (x / 65536).toNat = x.toNat / 65536 := by omega
       have l := Lib.bitLen_le8' (x / 65536) (by omega) (by omega)
       have s := Lib.bitLen_shift16 x.toNat (by omega) (by omega)
       rw [e] at l ⊢
       unfold wrap64
       omega)
    | (rw [Lib.len8_of (x / 256) (by omega) (by omega)]
       have e : (x / 256).toNat = x.toNat / 256 := by omega
       have l := Lib.bitLen_le8' (x / 256) (by omega) (by omega)
       have s := Lib.bitLen_shift8 x.toNat (by omega) (by omega)
       rw [e] at l ⊢
       unfold wrap64
       omega)
    | (rw [Lib.len8_of x (by omega) (by omega)]
       have l := Lib.bitLen_le8' x (by omega) (by omega)
       unfold wrap64
       omega)

set_option maxHeartbeats 400000 in
theorem splitWord_any (n : Nat) (w : World) (hn : (n : Int) < 18446744073709551616) :
    Calls Try.prog 44 #[.int .u64 n] w fun e w' => e = .returned (.slice (some ⟨w.heap.size, 0, none⟩) (trimZ [n % 4294967296, n / 4294967296]).length 2) ∧ Row .u32 91 w' w.heap.size [n % 4294967296, n / 4294967296] ∧ Below w.heap.size w w' ∧ w'.heap.size = w.heap.size + 1 := by
  go_enter Try.func44, Try.ntmps44
  go_wp2_with fail
  have hr := Row.new w .u32 91 [n % 4294967296, n / 4294967296]
  refine (trimmed_any (some ⟨w.heap.size, 0, none⟩) 2 2 [n % 4294967296, n / 4294967296] _ rfl (Nat.le_refl _) (by unfold maxLen; omega) hr.all).mono ?_
  rintro e w' ⟨rfl, rfl⟩
  go_wp2
  go_ret
  refine ⟨rfl, hr, ?_, ?_⟩
  · exact (Below.refl _ _).alloc (Nat.le_refl _) _
  · simp

theorem or_join (a b : Nat) (ha : a < 4294967296) (hb : b < 4294967296) : bits BinOp.or IntKind.u64 (a : Int) (IntKind.u64.wrap (IntKind.u64.wrap (b : Int) * 2 ^ (1 * 32))) = ((a + 4294967296 * b : Nat) : Int) := by
  have e1 : IntKind.u64.wrap (IntKind.u64.wrap (b : Int) * 2 ^ (1 * 32)) = ((b * 4294967296 : Nat) : Int) := by
    rw [IntKind.wrap_u64, IntKind.wrap_u64]; omega
  rw [e1, u64_or_nat _ _ (by omega) (by omega)]
  congr 1
  have := Nat.shiftLeft_add_eq_or_of_lt (b := a) (i := 32) ha b
  rw [Nat.shiftLeft_eq] at this
  rw [Nat.or_comm, ← show b * 2 ^ 32 = b * 4294967296 from rfl, ← this]
  omega

theorem or_none (b : Nat) (hb : b < 4294967296) : bits BinOp.or IntKind.u64 ((0 : Nat) : Int) (IntKind.u64.wrap (IntKind.u64.wrap (b : Int) * 2 ^ (0 * 32))) = (b : Int) := by
  have e1 : IntKind.u64.wrap (IntKind.u64.wrap (b : Int) * 2 ^ (0 * 32)) = (b : Int) := by
    rw [IntKind.wrap_u64, IntKind.wrap_u64]; omega
  rw [e1, u64_or_nat _ _ (by omega) (by omega)]
  simp

theorem join_step (xs : List Nat) (k : Nat) (hl : xs.length ≤ 2) (h0 : k < xs.length) (hd : Digs 4294967296 xs) :
    bits BinOp.or IntKind.u64 ((val 4294967296 (xs.take k) : Nat) : Int) (IntKind.u64.wrap (IntKind.u64.wrap ((xs[k] : Nat) : Int) * 2 ^ (k * 32))) = ((val 4294967296 (xs.take (k + 1)) : Nat) : Int) := by
  have hk := hd.get (by decide) k
  rw [List.getElem?_eq_getElem h0] at hk
  simp only [Option.getD_some] at hk
  have hv : val 4294967296 (xs.take (k + 1)) = val 4294967296 (xs.take k) + 4294967296 ^ k * xs[k] := by
    rw [val_take_succ _ _ _ h0, List.getD_eq_getElem?_getD, List.getElem?_eq_getElem h0]; rfl
  rw [hv]
  have hc : k = 0 ∨ k = 1 := by omega
  rcases hc with rfl | rfl
  · simp only [List.take_zero, val_nil]
    rw [or_none _ hk]
    simp
  · have h1 := val_lt (hd.take 1)
    rw [List.length_take, Nat.min_eq_left (by omega)] at h1
    rw [or_join _ _ (by simpa using h1) hk]

set_option maxHeartbeats 400000 in
theorem joinWord_any (ao : Option Addr) (n cap : Nat) (xs : List Nat) (w : World) (hn : xs.length = n) (h1 : n ≤ 2) (hs : Seg .u32 w ao xs) (hd : Digs 4294967296 xs) :
    Calls Try.prog 63 #[.slice ao n cap] w fun e w' => e = .returned (.int .u64 (val 4294967296 xs)) ∧ w' = w := by
  subst hn
  go_enter Try.func63, Try.ntmps63
  go_wp2
  go_loop [3, 8] (fun v i => ∃ k : Nat, k ≤ xs.length ∧ i = .int .i64 k ∧ v = .int .u64 (val 4294967296 (xs.take k))) (fun v i => 2 - (intOf i).toNat)
  case atStart => exact ⟨0, by omega, rfl, rfl⟩
  case round =>
    obtain ⟨k, hk, rfl, rfl⟩ := hrel
    by_cases h0 : k < xs.length
    · obtain ⟨b, off, rfl, hc⟩ := hs.open k h0
      have hcell := hc k h0
      clear hc
      go_wp2
      go_round
      case rel => exact ⟨k + 1, by omega, by go_num, by rw [← join_step xs k h1 h0 hd]⟩
      case measure => simp [intOf]; omega
    · go_wp2
      go_ret
      refine ⟨?_, rfl⟩
      rw [List.take_of_length_le (by omega)]
      rfl
end Go.Proofs.Ytidpbdhhbeaijab
