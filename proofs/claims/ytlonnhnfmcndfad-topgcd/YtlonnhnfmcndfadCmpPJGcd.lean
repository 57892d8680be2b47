/- Plain facts on the order of digits; no program is spoken of here. -/
import Derived.Test.YtlonnhnfmcndfadPlainJGcd
namespace Go.Proofs.Ytlonnhnfmcndfad

theorem val_split (B : Nat) (xs : List Nat) (k : Nat) (hk : k ≤ xs.length) : val B xs = val B (xs.take k) + B ^ k * val B (xs.drop k) := by
  have h := val_append B (xs.take k) (xs.drop k)
  rw [List.take_append_drop, List.length_take, Nat.min_eq_left hk] at h
  exact h

theorem val_lt_at {B : Nat} {xs ys : List Nat} (hx : Digs B xs) (hl : xs.length = ys.length) (j : Nat) (hj : j < xs.length) (ht : xs.drop (j + 1) = ys.drop (j + 1)) (h : xs.getD j 0 < ys.getD j 0) : val B xs < val B ys := by
  rw [val_split B xs (j + 1) (by omega), val_split B ys (j + 1) (by omega), ht, val_take_succ B xs j hj, val_take_succ B ys j (by omega)]
  have h1 := val_lt (hx.take j)
  rw [List.length_take, Nat.min_eq_left (by omega)] at h1
  have h2 : B ^ j * (xs.getD j 0 + 1) ≤ B ^ j * ys.getD j 0 := Nat.mul_le_mul_left _ h
  rw [Nat.mul_add, Nat.mul_one] at h2
  omega

/-- The order of two lists of digits: by length, then by number. -/
def cmpL (B : Nat) (xs ys : List Nat) : Int :=
  if xs.length < ys.length then -1 else if ys.length < xs.length then 1 else if val B xs < val B ys then -1 else if val B ys < val B xs then 1 else 0

/-- Without noughts at the ends it is the numbers' order. -/
theorem cmpL_norm {B : Nat} {xs ys : List Nat} (hB : 0 < B) (hx : Digs B xs) (hy : Digs B ys) (nx : Norm xs) (ny : Norm ys) : cmpL B xs ys = ((val B xs : Int) - val B ys).sign := by
  unfold cmpL
  by_cases h1 : xs.length < ys.length
  · rw [if_pos h1]
    have := val_lt_of_length hx ny hB h1
    exact (Int.sign_eq_neg_one_of_neg (by omega)).symm
  · rw [if_neg h1]
    by_cases h2 : ys.length < xs.length
    · rw [if_pos h2]
      have := val_lt_of_length hy nx hB h2
      exact (Int.sign_eq_one_of_pos (by omega)).symm
    · rw [if_neg h2]
      by_cases h3 : val B xs < val B ys
      · rw [if_pos h3]; exact (Int.sign_eq_neg_one_of_neg (by omega)).symm
      · rw [if_neg h3]
        by_cases h4 : val B ys < val B xs
        · rw [if_pos h4]; exact (Int.sign_eq_one_of_pos (by omega)).symm
        · rw [if_neg h4]
          have : (val B xs : Int) - val B ys = 0 := by omega
          rw [this]; rfl

theorem cmpL_lt {B : Nat} {xs ys : List Nat} (hl : xs.length = ys.length) (h : val B xs < val B ys) : cmpL B xs ys = -1 := by
  unfold cmpL; rw [if_neg (by omega), if_neg (by omega), if_pos h]
theorem cmpL_gt {B : Nat} {xs ys : List Nat} (hl : xs.length = ys.length) (h : val B ys < val B xs) : cmpL B xs ys = 1 := by
  unfold cmpL; rw [if_neg (by omega), if_neg (by omega), if_neg (by omega), if_pos h]
theorem cmpL_eq (B : Nat) (xs : List Nat) : cmpL B xs xs = 0 := by
  unfold cmpL; simp

theorem drop_cons_getD (xs : List Nat) (j : Nat) (hj : j < xs.length) : xs.drop j = xs.getD j 0 :: xs.drop (j + 1) := by
  rw [List.drop_eq_getElem_cons hj, List.getD_eq_getElem?_getD, List.getElem?_eq_getElem hj]
  rfl
end Go.Proofs.Ytlonnhnfmcndfad
