/- Plain facts on lists of digits of a base: their value, noughts at the end, order; no program is spoken of here. -/
import Derived.WalkKit
namespace Go.Proofs.Ytlonnhnfmcndfad

/-- The number that digits of base B write, the lowest first. -/
def val (B : Nat) : List Nat → Nat
  | [] => 0
  | x :: r => x + B * val B r

/-- Without noughts at the end. -/
def trimZ : List Nat → List Nat
  | [] => []
  | x :: r => if trimZ r = [] ∧ x = 0 then [] else x :: trimZ r

/-- Each is a digit. -/
def Digs (B : Nat) (xs : List Nat) : Prop := ∀ x, x ∈ xs → x < B

theorem Digs.nil (B : Nat) : Digs B [] := fun _ h => by simp at h
theorem Digs.tail {B x : Nat} {r : List Nat} (h : Digs B (x :: r)) : Digs B r := fun y hy => h y (List.mem_cons_of_mem _ hy)
theorem Digs.head {B x : Nat} {r : List Nat} (h : Digs B (x :: r)) : x < B := h x (List.mem_cons_self ..)
theorem Digs.cons {B x : Nat} {r : List Nat} (hx : x < B) (h : Digs B r) : Digs B (x :: r) := by
  intro y hy
  rcases List.mem_cons.1 hy with h' | h'
  · subst h'; exact hx
  · exact h y h'
theorem Digs.append {B : Nat} {a b : List Nat} (ha : Digs B a) (hb : Digs B b) : Digs B (a ++ b) := by
  intro y hy
  rcases List.mem_append.1 hy with h' | h'
  · exact ha y h'
  · exact hb y h'
theorem Digs.take {B : Nat} {a : List Nat} (ha : Digs B a) (n : Nat) : Digs B (a.take n) := fun y hy => ha y (List.mem_of_mem_take hy)
theorem Digs.drop {B : Nat} {a : List Nat} (ha : Digs B a) (n : Nat) : Digs B (a.drop n) := fun y hy => ha y (List.mem_of_mem_drop hy)
theorem Digs.getD {B : Nat} {a : List Nat} (ha : Digs B a) (hB : 0 < B) (i : Nat) : a.getD i 0 < B := by
  rw [List.getD_eq_getElem?_getD]
  cases h : a[i]? with
  | none => simpa using hB
  | some y => simpa using ha y (List.mem_of_getElem? h)
theorem Digs.get {B : Nat} {a : List Nat} (ha : Digs B a) (hB : 0 < B) (i : Nat) : a[i]?.getD 0 < B := by
  rw [← List.getD_eq_getElem?_getD]; exact ha.getD hB i

theorem val_nil (B : Nat) : val B [] = 0 := rfl
theorem val_cons (B x : Nat) (r : List Nat) : val B (x :: r) = x + B * val B r := rfl

theorem val_append (B : Nat) (a b : List Nat) : val B (a ++ b) = val B a + B ^ a.length * val B b := by
  induction a with
  | nil => simp [val]
  | cons x r ih =>
    simp only [List.cons_append, val, ih, List.length_cons, Nat.pow_succ, Nat.mul_add, Nat.add_assoc]
    congr 2
    rw [← Nat.mul_assoc, Nat.mul_comm B]

theorem val_snoc (B : Nat) (a : List Nat) (x : Nat) : val B (a ++ [x]) = val B a + B ^ a.length * x := by
  rw [val_append]; simp [val]

theorem take_snoc (xs : List Nat) (k : Nat) (h : k < xs.length) : xs.take (k + 1) = xs.take k ++ [xs.getD k 0] := by
  rw [List.take_succ_eq_append_getElem h, List.getD_eq_getElem?_getD, List.getElem?_eq_getElem h]; rfl

theorem val_take_succ (B : Nat) (xs : List Nat) (k : Nat) (h : k < xs.length) : val B (xs.take (k + 1)) = val B (xs.take k) + B ^ k * xs.getD k 0 := by
  rw [take_snoc xs k h, val_snoc, List.length_take, Nat.min_eq_left (Nat.le_of_lt h)]

theorem val_lt {B : Nat} {xs : List Nat} (h : Digs B xs) : val B xs < B ^ xs.length := by
  induction xs with
  | nil => simp [val]
  | cons x r ih =>
    have h1 := ih h.tail
    have h2 := h.head
    simp only [val, List.length_cons, Nat.pow_succ]
    have h3 : B * (val B r + 1) ≤ B * B ^ r.length := Nat.mul_le_mul_left _ h1
    rw [Nat.mul_add, Nat.mul_one] at h3
    rw [Nat.mul_comm (B ^ r.length) B]
    omega

theorem val_trimZ (B : Nat) (xs : List Nat) : val B (trimZ xs) = val B xs := by
  induction xs with
  | nil => rfl
  | cons x r ih =>
    simp only [trimZ]
    split
    · next h => obtain ⟨h1, h2⟩ := h; rw [h1] at ih; simp [val] at ih ⊢; rw [← ih, h2]; simp
    · simp [val, ih]

theorem trimZ_snoc_zero (l : List Nat) : trimZ (l ++ [0]) = trimZ l := by
  induction l with
  | nil => simp [trimZ]
  | cons x r ih => simp [trimZ, ih]

theorem trimZ_snoc_ne (l : List Nat) (x : Nat) (h : x ≠ 0) : trimZ (l ++ [x]) = l ++ [x] := by
  induction l with
  | nil => simp [trimZ, h]
  | cons y r ih => simp [trimZ, ih]

theorem trimZ_take (xs : List Nat) : trimZ xs = xs.take (trimZ xs).length := by
  induction xs with
  | nil => rfl
  | cons x r ih =>
    simp only [trimZ]
    split
    · simp
    · simp only [List.length_cons, List.take_succ_cons]; rw [← ih]

theorem trimZ_length_le (xs : List Nat) : (trimZ xs).length ≤ xs.length := by
  have h := congrArg List.length (trimZ_take xs)
  rw [List.length_take] at h
  omega

theorem Digs.trimZ {B : Nat} {xs : List Nat} (h : Digs B xs) : Digs B (trimZ xs) := by
  rw [trimZ_take]; exact h.take _

/-- No nought at the end. -/
def Norm (xs : List Nat) : Prop := trimZ xs = xs

theorem Norm.nil : Norm [] := rfl

theorem norm_trimZ (xs : List Nat) : Norm (trimZ xs) := by
  induction xs with
  | nil => rfl
  | cons x r ih =>
    unfold Norm at ih ⊢
    by_cases h : trimZ r = [] ∧ x = 0
    · rw [show trimZ (x :: r) = [] by simp [trimZ, h]]; rfl
    · have e : trimZ (x :: r) = x :: trimZ r := by simp only [trimZ]; rw [if_neg h]
      rw [e]
      simp only [trimZ, ih]
      rw [if_neg h]

theorem Norm.tail {x : Nat} {r : List Nat} (h : Norm (x :: r)) : Norm r := by
  unfold Norm at h ⊢
  simp only [trimZ] at h
  split at h
  · cases h
  · exact (List.cons.inj h).2

theorem Norm.pos {B : Nat} {xs : List Nat} (h : Norm xs) (hne : xs ≠ []) : 0 < val B xs ∨ B = 0 := by
  induction xs with
  | nil => exact absurd rfl hne
  | cons x r ih =>
    by_cases hr : r = []
    · subst hr
      unfold Norm at h
      simp only [trimZ] at h
      split at h
      · cases h
      · next h' => simp at h'; left; simp [val]; omega
    · rcases ih h.tail hr with h1 | h1
      · by_cases hB : B = 0
        · exact Or.inr hB
        · left; simp only [val]; exact Nat.lt_of_lt_of_le (Nat.mul_pos (Nat.pos_of_ne_zero hB) h1) (Nat.le_add_left _ _)
      · exact Or.inr h1

theorem Norm.ge {B : Nat} {xs : List Nat} (h : Norm xs) (hne : xs ≠ []) (hB : 0 < B) : B ^ (xs.length - 1) ≤ val B xs := by
  induction xs with
  | nil => exact absurd rfl hne
  | cons x r ih =>
    by_cases hr : r = []
    · subst hr
      have := (h.pos (B := B) (by simp)).resolve_right (by omega)
      simp; omega
    · have h1 := ih h.tail hr
      have hl : 0 < r.length := List.length_pos_iff.2 hr
      simp only [val, List.length_cons, Nat.add_sub_cancel]
      have e : B ^ r.length = B * B ^ (r.length - 1) := by
        rw [Nat.mul_comm, ← Nat.pow_succ]; congr 1; omega
      rw [e]
      exact Nat.le_trans (Nat.mul_le_mul_left _ h1) (Nat.le_add_left _ _)

theorem Norm.eq_nil {B : Nat} {xs : List Nat} (h : Norm xs) (hB : 0 < B) (hv : val B xs = 0) : xs = [] := by
  by_cases hne : xs = []
  · exact hne
  · have := (h.pos (B := B) hne).resolve_right (by omega)
    omega

theorem Norm.last {xs : List Nat} (h : Norm xs) (hne : 0 < xs.length) : xs.getD (xs.length - 1) 0 ≠ 0 := by
  intro e
  have h1 := take_snoc xs (xs.length - 1) (by omega)
  rw [show xs.length - 1 + 1 = xs.length by omega, List.take_length, e] at h1
  unfold Norm at h
  have h2 := congrArg trimZ h1
  rw [h, trimZ_snoc_zero] at h2
  have h3 := congrArg List.length h2
  have h4 := trimZ_length_le (xs.take (xs.length - 1))
  simp only [List.length_take] at h4
  omega

/-- Of two lists of digits without noughts at their ends the longer one is the greater number. -/
theorem val_lt_of_length {B : Nat} {xs ys : List Nat} (hx : Digs B xs) (hy : Norm ys) (hB : 0 < B) (h : xs.length < ys.length) : val B xs < val B ys := by
  have h1 := val_lt hx
  have h2 := hy.ge (B := B) (by intro e; subst e; simp at h) hB
  have h3 : B ^ xs.length ≤ B ^ (ys.length - 1) := Nat.pow_le_pow_right hB (by omega)
  omega

theorem val_inj {B : Nat} {xs ys : List Nat} (hx : Digs B xs) (hy : Digs B ys) (hl : xs.length = ys.length) (h : val B xs = val B ys) : xs = ys := by
  induction xs generalizing ys with
  | nil => cases ys with
    | nil => rfl
    | cons y s => simp at hl
  | cons x r ih => cases ys with
    | nil => simp at hl
    | cons y s =>
      simp only [val] at h
      have hx0 := hx.head
      have hy0 := hy.head
      have h1 : x = y := by
        have a := congrArg (· % B) h
        simp only [Nat.add_mul_mod_self_left] at a
        rwa [Nat.mod_eq_of_lt hx0, Nat.mod_eq_of_lt hy0] at a
      subst h1
      have h2 : val B r = val B s := Nat.eq_of_mul_eq_mul_left (show 0 < B by omega) (Nat.add_left_cancel h)
      rw [ih hx.tail hy.tail (by simpa using hl) h2]

theorem Norm.inj {B : Nat} {xs ys : List Nat} (hx : Digs B xs) (hy : Digs B ys) (nx : Norm xs) (ny : Norm ys) (hB : 0 < B) (h : val B xs = val B ys) : xs = ys := by
  apply val_inj hx hy _ h
  rcases Nat.lt_trichotomy xs.length ys.length with h1 | h1 | h1
  · have := val_lt_of_length hx ny hB h1; omega
  · exact h1
  · have := val_lt_of_length hy nx hB h1; omega

theorem trimZ_eq_of_zeros (xs : List Nat) (k : Nat) (hk : k ≤ xs.length) (h : ∀ i, k ≤ i → i < xs.length → xs.getD i 0 = 0) : trimZ xs = trimZ (xs.take k) := by
  induction hn : xs.length - k generalizing k with
  | zero => rw [List.take_of_length_le (by omega)]
  | succ n ih =>
    rw [ih (k + 1) (by omega) (fun i h1 h2 => h i (by omega) h2) (by omega), take_snoc xs k (by omega), h k (Nat.le_refl _) (by omega), trimZ_snoc_zero]

theorem take_set_succ (zs : List Nat) (k d : Nat) (hk : k < zs.length) : (zs.set k d).take (k + 1) = zs.take k ++ [d] := by
  rw [take_snoc _ k (by simpa using hk), List.take_set_of_le (Nat.le_refl k)]
  simp [List.getD_eq_getElem?_getD, hk]

theorem val_set_succ (B : Nat) (zs : List Nat) (k d : Nat) (hk : k < zs.length) : val B ((zs.set k d).take (k + 1)) = val B (zs.take k) + B ^ k * d := by
  rw [take_set_succ zs k d hk, val_snoc, List.length_take, Nat.min_eq_left (Nat.le_of_lt hk)]

theorem Digs.set {B : Nat} {zs : List Nat} (h : Digs B zs) (k d : Nat) (hd : d < B) : Digs B (zs.set k d) := by
  intro y hy
  rcases List.mem_or_eq_of_mem_set hy with h' | h'
  · exact h y h'
  · subst h'; exact hd

theorem val_take_succ' (B : Nat) (xs : List Nat) (k : Nat) : val B (xs.take (k + 1)) = val B (xs.take k) + B ^ k * xs.getD k 0 := by
  rcases Nat.lt_or_ge k xs.length with h | h
  · exact val_take_succ B xs k h
  · rw [List.take_of_length_le (by omega), List.take_of_length_le h, List.getD_eq_getElem?_getD, List.getElem?_eq_none h]
    simp

theorem plus_step (P A c X Y x y d c' B : Nat) (h : A + P * c = X + Y) (hs : d + B * c' = c + x + y) : (A + P * d) + P * B * c' = (X + P * x) + (Y + P * y) := by
  have e := congrArg (P * ·) hs
  simp only [Nat.mul_add, Nat.mul_assoc] at *
  omega

end Go.Proofs.Ytlonnhnfmcndfad
