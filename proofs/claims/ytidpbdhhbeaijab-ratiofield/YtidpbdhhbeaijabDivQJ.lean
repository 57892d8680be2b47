/- Plain facts for the long division: shifts, the window's neighbours, start, step and end; no program is spoken of here. -/
import Derived.Test.YtidpbdhhbeaijabDivPJ
namespace Go.Proofs.Ytidpbdhhbeaijab
open Go.RowKit

theorem down_step (P Q a b D : Nat) (hP : 0 < P) (ha : a < P * Q) (hb : D % P = b % P) : (a + P * Q * D) / P = ((a + P * Q * b) / P) % (P * Q) + P * Q * (D / P) := by
  have e1 (x : Nat) : (a + P * Q * x) / P = a / P + Q * x := by rw [Nat.mul_assoc, Nat.add_mul_div_left _ _ hP]
  have h1 : a / P < Q := by rw [Nat.div_lt_iff_lt_mul hP, Nat.mul_comm]; exact ha
  have e2 (x : Nat) : a / P + Q * x = (a / P + Q * (x % P)) + P * Q * (x / P) := by
    have h2 := Nat.mod_add_div x P
    have h3 : Q * x = Q * (x % P) + P * Q * (x / P) := by
      rw [Nat.mul_comm P Q, Nat.mul_assoc, ← Nat.mul_add, h2]
    omega
  have h4 : a / P + Q * (b % P) < P * Q := by
    have h5 := Nat.mod_lt b hP
    have h6 : Q * (b % P + 1) ≤ Q * P := Nat.mul_le_mul_left _ h5
    rw [Nat.mul_add, Nat.mul_one, Nat.mul_comm Q P] at h6
    omega
  rw [e1, e1, e2 b, Nat.add_mul_mod_self_left, Nat.mod_eq_of_lt h4, e2 D, hb]

theorem up_low (P Q x : Nat) : (x * P) % (P * Q) = P * (x % Q) ∧ (x * P) / (P * Q) = x / Q ∨ P = 0 := by
  rcases Nat.eq_zero_or_pos P with h | h
  · exact .inr h
  · left
    rw [Nat.mul_comm x P, Nat.mul_mod_mul_left, Nat.mul_div_mul_left _ _ h]
    exact ⟨rfl, rfl⟩
theorem up_step (Pk A c X x P d h B : Nat) (h0 : A + Pk * c = X * P) (h1 : d + B * h = x * P + c) : (A + Pk * d) + Pk * B * h = (X + Pk * x) * P := by
  have e := congrArg (Pk * ·) h1
  simp only [Nat.mul_add] at e
  rw [Nat.add_mul, Nat.mul_assoc Pk B h, Nat.mul_assoc Pk x P]
  omega
theorem shl_or (s t c : Nat) (hc : c < 2 ^ s) : 2 ^ s * t ||| c = 2 ^ s * t + c := by
  rw [Nat.mul_comm, ← Nat.shiftLeft_eq, Nat.shiftLeft_add_eq_or_of_lt hc]

theorem val_cut (B : Nat) (xs : List Nat) (k : Nat) (h : k ≤ xs.length) : val B xs = val B (xs.take k) + B ^ k * val B (xs.drop k) := by
  have e := val_append B (xs.take k) (xs.drop k)
  rw [List.take_append_drop, List.length_take, Nat.min_eq_left h] at e
  exact e
theorem val_drop_cons (B : Nat) (xs : List Nat) (k : Nat) (h : k < xs.length) : val B (xs.drop k) = xs.getD k 0 + B * val B (xs.drop (k + 1)) := by
  rw [List.drop_eq_getElem_cons h]
  show _ + _ = _
  simp [List.getElem?_eq_getElem h]

/-- The window's rest: what lies above it is 0, and the window is below B times the divisor. -/
theorem win_facts {B V n : Nat} {R : List Nat} {j : Nat} (hB : 0 < B) (hd : Digs B R) (hl : j + n + 1 ≤ R.length) (hV : V ≤ B ^ n) (h : val B (R.drop (j + 1)) < V) :
    val B (R.drop (j + n + 1)) = 0 ∧ val B ((R.drop j).take (n + 1)) = val B (R.drop j) ∧ val B (R.drop j) < B * V := by
  have e1 := val_cut B (R.drop (j + 1)) n (by rw [List.length_drop]; omega)
  rw [List.drop_drop, show j + 1 + n = j + n + 1 by omega] at e1
  have z : val B (R.drop (j + n + 1)) = 0 := by
    rcases Nat.eq_zero_or_pos (val B (R.drop (j + n + 1))) with k | k
    · exact k
    · have := Nat.mul_le_mul_left (B ^ n) k
      omega
  refine ⟨z, ?_, ?_⟩
  · have e2 := val_cut B (R.drop j) (n + 1) (by rw [List.length_drop]; omega)
    rw [List.drop_drop, show j + (n + 1) = j + n + 1 by omega, z] at e2
    omega
  · rw [val_drop_cons B R j (by omega)]
    have h2 := hd.getD hB j
    have h3 : B * (val B (R.drop (j + 1)) + 1) ≤ B * V := Nat.mul_le_mul_left _ h
    rw [Nat.mul_add] at h3
    omega

theorem knuth_step (U V Q R T P W q W' B : Nat) (h : U = V * (P * B * Q) + R) (hR : R = T + P * W) (hW : W = V * q + W') : U = V * (P * (q + B * Q)) + (T + P * W') := by
  subst hR hW
  rw [h]
  simp only [Nat.mul_add, Nat.mul_assoc, Nat.mul_left_comm P V]
  omega
theorem knuth_end {U V Q R X Y S : Nat} (hS : 0 < S) (h : U = V * Q + R) (hR : R < V) (hU : U = X * S) (hV : V = Y * S) : Q = X / Y ∧ R / S = X % Y := by
  have hV0 : 0 < V := by omega
  have h1 : U / V = Q := by rw [h, Nat.mul_add_div hV0, Nat.div_eq_of_lt hR, Nat.add_zero]
  have h2 : U % V = R := by rw [h, Nat.mul_add_mod, Nat.mod_eq_of_lt hR]
  rw [hU, hV, Nat.mul_div_mul_right _ _ hS] at h1
  rw [hU, hV, Nat.mul_mod_mul_right] at h2
  refine ⟨h1.symm, ?_⟩
  rw [← h2, Nat.mul_div_cancel _ hS]
theorem knuth_start {B V X S la n L r : Nat} {R : List Nat} (hl : R.length = la + 1) (hR : val B R = X * S) (hX : X < B ^ la) (hn : 0 < n) (hL : L + n = la + 1) (hr : B ^ (n - 1) * r ≤ V) (hS : S ≤ r) (hS0 : 0 < S) : val B (R.drop L) < V := by
  have e := val_cut B R L (by omega)
  rw [hR] at e
  have h1 : X * S < B ^ la * S := Nat.mul_lt_mul_of_pos_right hX hS0
  have e2 : B ^ la = B ^ L * B ^ (n - 1) := by rw [← Nat.pow_add]; congr 1; omega
  rw [e2, Nat.mul_assoc] at h1
  have h2 : B ^ L * val B (R.drop L) < B ^ L * (B ^ (n - 1) * S) := by omega
  have h3 := Nat.lt_of_mul_lt_mul_left h2
  have h4 : B ^ (n - 1) * S ≤ B ^ (n - 1) * r := Nat.mul_le_mul_left _ hS
  omega

theorem norm_length {B n : Nat} {l : List Nat} (hB : 2 ≤ B) (hn : Norm l) (hd : Digs B l) (h0 : 0 < n) (h1 : B ^ (n - 1) ≤ val B l) (h2 : val B l < B ^ n) : l.length = n := by
  have h3 := val_lt hd
  have h4 : n - 1 < l.length := by
    rcases Nat.lt_or_ge (n - 1) l.length with k | k
    · exact k
    · have := Nat.pow_le_pow_right (show 0 < B by omega) k
      omega
  have h5 := hn.ge (B := B) (List.ne_nil_of_length_pos (by omega)) (by omega)
  have h6 : l.length - 1 < n := by
    rcases Nat.lt_or_ge (l.length - 1) n with k | k
    · exact k
    · have := Nat.pow_le_pow_right (show 0 < B by omega) k
      omega
  omega
end Go.Proofs.Ytidpbdhhbeaijab
