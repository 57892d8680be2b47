/- Plain facts for the long division: windows of a list, one step, the guess of a limb; no program is spoken of here. -/
import Derived.Test.YtidpbdhhbeaijabJoin4
namespace Go.Proofs.Ytidpbdhhbeaijab
open Go.RowKit

theorem mid_get (a b c : List Nat) (o k : Nat) (ho : a.length = o) (h : k < b.length) : (a ++ (b ++ c)).getD (o + k) 0 = b.getD k 0 := by
  subst ho
  rw [List.getD_eq_getElem?_getD, List.getElem?_append_right (by omega), Nat.add_sub_cancel_left, List.getElem?_append_left h, ← List.getD_eq_getElem?_getD]
theorem mid_set (a b c : List Nat) (o k d : Nat) (ho : a.length = o) (h : k < b.length) : (a ++ (b ++ c)).set (o + k) d = a ++ (b.set k d ++ c) := by
  subst ho
  rw [List.set_append_right _ _ (Nat.le_add_right _ _), Nat.add_sub_cancel_left, List.set_append_left _ _ h]

theorem take_step (P A m Y X c b y x l c' d b' B : Nat) (h : A + m * Y = X + P * (c + b)) (hp : m * y + c = l + B * c') (hs : d + l + b = x + B * b') : (A + P * d) + m * (Y + P * y) = (X + P * x) + P * B * (c' + b') := by
  have e : d + m * y + (c + b) = x + B * (c' + b') := by rw [Nat.mul_add]; omega
  have e2 := congrArg (P * ·) e
  simp only [Nat.mul_add] at e2 h ⊢
  rw [Nat.mul_left_comm m P y, Nat.mul_assoc P B c', Nat.mul_assoc P B b']
  omega
theorem take_last (P A Y X c b x d b' B : Nat) (h : A + Y = X + P * (c + b)) (hs : d + c + b = x + B * b') : (A + P * d) + Y = (X + P * x) + P * B * b' := by
  have e2 := congrArg (P * ·) hs
  simp only [Nat.mul_add] at e2 h
  rw [Nat.mul_assoc P B b']
  omega
theorem put_step (P A Y X c y x d c' B : Nat) (h : A + P * c = X + Y) (hs : d + B * c' = x + y + c) : (A + P * d) + P * B * c' = (X + P * x) + (Y + P * y) := by
  have e2 := congrArg (P * ·) hs
  simp only [Nat.mul_add] at e2
  rw [Nat.mul_assoc P B c']
  omega

/-- The guess is not too small .. -/
theorem guess_low {u v U V ul vl P B g : Nat} (hu : u = U * P + ul) (hul : ul < P) (hv : v = V * P + vl) (hb : u < B * v) (hg : U / V ≤ g ∨ B ≤ g + 1) (hV : 0 < V) : u / v ≤ g := by
  have hP : 0 < P := by omega
  have hv0 : 0 < v := by rw [hv]; have := Nat.mul_pos hV hP; omega
  rcases hg with h | h
  · refine Nat.le_trans ?_ h
    rw [Nat.le_div_iff_mul_le hV]
    have h1 : u / v * v ≤ u := Nat.div_mul_le_self u v
    have h2 : u / v * (V * P) ≤ u / v * v := Nat.mul_le_mul_left _ (by omega)
    rw [← Nat.mul_assoc] at h2
    have h3 : u / v * V * P < (U + 1) * P := by rw [Nat.add_mul, Nat.one_mul]; omega
    have := Nat.lt_of_mul_lt_mul_right h3
    omega
  · have : u / v < B := by rw [Nat.div_lt_iff_lt_mul hv0]; exact hb
    omega
/-- .. and too great by 1 at most. -/
theorem guess_high {u v U V ul vl P B g : Nat} (hu : u = U * P + ul) (hv : v = V * P + vl) (hvl : vl < P) (hg : g * V ≤ U) (hgB : g < B) (hvB : B * P ≤ v) : g ≤ u / v + 1 := by
  have hv0 : 0 < v := by have := Nat.mul_pos (show 0 < B by omega) (show 0 < P by omega); omega
  have h1 : g * v ≤ u + v := by
    rw [hv, Nat.mul_add, ← Nat.mul_assoc, ← hv]
    have h2 : g * V * P ≤ U * P := Nat.mul_le_mul_right _ hg
    have h3 : g * vl ≤ B * P := Nat.mul_le_mul (Nat.le_of_lt hgB) (Nat.le_of_lt hvl)
    omega
  have h4 : g ≤ (u + v) / v := by rw [Nat.le_div_iff_mul_le hv0]; exact h1
  rwa [Nat.add_div_right _ hv0] at h4

theorem val_three (B : Nat) (xs : List Nat) (m : Nat) (h : xs.length = m + 3) : val B xs = ((xs.getD (m + 2) 0 * B + xs.getD (m + 1) 0) * B + xs.getD m 0) * B ^ m + val B (xs.take m) := by
  have e : xs = xs.take (m + 3) := by rw [List.take_of_length_le (by omega)]
  rw [e, val_take_succ B xs (m + 2) (by omega), val_take_succ B xs (m + 1) (by omega), val_take_succ B xs m (by omega), ← e, show B ^ (m + 2) = B ^ m * B * B by rw [Nat.pow_succ, Nat.pow_succ], Nat.pow_succ]
  simp only [Nat.add_mul]
  generalize B ^ m = P
  generalize xs.getD (m + 2) 0 = a
  generalize xs.getD (m + 1) 0 = b
  generalize xs.getD m 0 = c
  simp only [Nat.mul_comm, Nat.mul_left_comm]
  omega
theorem val_two (B : Nat) (xs : List Nat) (m : Nat) (h : xs.length = m + 2) : val B xs = (xs.getD (m + 1) 0 * B + xs.getD m 0) * B ^ m + val B (xs.take m) := by
  have e : xs = xs.take (m + 2) := by rw [List.take_of_length_le (by omega)]
  rw [e, val_take_succ B xs (m + 1) (by omega), val_take_succ B xs m (by omega), ← e, Nat.pow_succ]
  simp only [Nat.add_mul]
  generalize B ^ m = P
  generalize xs.getD (m + 1) 0 = b
  generalize xs.getD m 0 = c
  rw [Nat.mul_comm P c, Nat.mul_comm (P * B) b, Nat.mul_comm P B]
  simp only [Nat.mul_assoc]
  omega

/-- One step of the division, out of a guess. -/
theorem step_low {u v g u' b T : Nat} (hg : g ≤ u / v) (hu' : u' < T) (h : u' + g * v = u + T * b) (hb : b ≤ 1) (hlow : u / v ≤ g) : b = 0 ∧ g = u / v ∧ u' = u % v := by
  have e : g = u / v := by omega
  have h1 : g * v ≤ u := by rw [e]; exact Nat.div_mul_le_self u v
  have hb0 : b = 0 := by
    rcases Nat.eq_zero_or_pos b with k | k
    · exact k
    · have : b = 1 := by omega
      subst this; omega
  subst hb0
  refine ⟨rfl, e, ?_⟩
  have h2 := Nat.div_add_mod u v
  rw [Nat.mul_comm, ← e] at h2
  omega
theorem step_high {u v g u' b T u2 c : Nat} (hv : 0 < v) (hg : g = u / v + 1) (_hu' : u' < T) (h : u' + g * v = u + T * b) (_hb : b ≤ 1) (hu2 : u2 < T) (hc : u2 + T * c = u' + v) (hc1 : c ≤ 1) : b = 1 ∧ u2 = u % v := by
  have h1 := Nat.div_add_mod u v
  have h2 := Nat.mod_lt u hv
  rw [Nat.mul_comm] at h1
  rw [hg, Nat.add_mul, Nat.one_mul] at h
  have hb1 : b = 1 := by
    rcases Nat.eq_zero_or_pos b with k | k
    · subst k; omega
    · omega
  subst hb1
  refine ⟨rfl, ?_⟩
  have : c = 1 := by
    rcases Nat.eq_zero_or_pos c with k | k
    · subst k; omega
    · omega
  subst this
  omega
end Go.Proofs.Ytidpbdhhbeaijab
