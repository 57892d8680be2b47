/- A chain of one function with two circles: what follows is what the greatest common divisor says; no statement of the seat is proved here. -/
import Derived.Test.YtlonnhnfmcndfadEufYJGcd
namespace Go.Proofs.Ytlonnhnfmcndfad
open Go.RowKit
set_option linter.unusedVariables false
namespace Euf
/-- a, f(a), f(f(a)) and so on. -/
def ChainN (sa sf : ByteArray) (nn : Nat) (N : Nat → ByteArray × List Nat) : Prop := (0 < nn → N 0 = (sa, [])) ∧ ∀ i, i + 1 < nn → N (i + 1) = (sf, [i])
section
variable {nn : Nat} {N : Nat → ByteArray × List Nat} {E : Nat → Nat → Prop} {sa sf : ByteArray}
theorem ChainN.shift (h : ChainN sa sf nn N) {i j : Nat} (hc : Cong nn N E i j) : ∀ k, i + k < nn → j + k < nn → Cong nn N E (i + k) (j + k)
  | 0, _, _ => hc
  | k + 1, h1, h2 => by
    have c := h.shift hc k (by omega) (by omega)
    have e1 := h.2 (i + k) (by omega)
    have e2 := h.2 (j + k) (by omega)
    refine .args h1 h2 (by show (N (i + k + 1)).1 = (N (j + k + 1)).1; rw [e1, e2]) (by show (N (i + k + 1)).2.length = (N (j + k + 1)).2.length; rw [e1, e2]; rfl) ?_
    show ∀ l, l < (N (i + k + 1)).2.length → Cong nn N E ((N (i + k + 1)).2.getD l 0) ((N (j + k + 1)).2.getD l 0)
    rw [e1, e2]
    intro l hl
    simp at hl
    subst hl
    simpa using c
theorem ChainN.less (h : ChainN sa sf nn N) {x y : Nat} (hx : x < nn) (hxy : y ≤ x) (c1 : Cong nn N E x 0) (c2 : Cong nn N E y 0) : Cong nn N E (x - y) 0 := by
  have c := h.shift (E := E) c2.symm (x - y) (by omega) (by omega)
  rw [Nat.zero_add, show y + (x - y) = x by omega] at c
  exact c.trans c1
theorem ChainN.gcd (h : ChainN sa sf nn N) : ∀ (s x y : Nat), x + y ≤ s → 0 < x → 0 < y → x < nn → y < nn → Cong nn N E x 0 → Cong nn N E y 0 → Cong nn N E (Nat.gcd x y) 0
  | 0, x, y, hs, h1, _, _, _, _, _ => by omega
  | s + 1, x, y, hs, h1, h2, h3, h4, c1, c2 => by
    rcases Nat.lt_trichotomy x y with hl | he | hg
    · have e : Nat.gcd x y = Nat.gcd x (y - x) := by rw [Nat.gcd_sub_self_right (Nat.le_of_lt hl)]
      rw [e]
      exact h.gcd s x (y - x) (by omega) h1 (by omega) h3 (by omega) c1 (h.less h4 (Nat.le_of_lt hl) c2 c1)
    · subst he; rw [Nat.gcd_self]; exact c1
    · have e : Nat.gcd x y = Nat.gcd (x - y) y := by rw [Nat.gcd_sub_self_left (Nat.le_of_lt hg)]
      rw [e]
      exact h.gcd s (x - y) y (by omega) (by omega) h2 (by omega) h4 (h.less h3 (Nat.le_of_lt hg) c1 c2) c2
theorem ChainN.times (h : ChainN sa sf nn N) {g : Nat} (hg : Cong nn N E g 0) : ∀ j, g * j < nn → Cong nn N E (g * j) 0
  | 0, _ => by rw [Nat.mul_zero]; exact .refl _
  | j + 1, hj => by
    rw [Nat.mul_succ] at hj
    have c := h.times hg j (by omega)
    have c2 := h.shift hg (g * j) (by omega) (by omega)
    rw [Nat.zero_add] at c2
    rw [Nat.mul_succ, Nat.add_comm]
    exact c2.trans c
theorem chain_iff (h : ChainN sa sf nn N) {n m k : Nat} (hn : 0 < n) (hm : 0 < m) (hnn : n < nn) (hmm : m < nn) (hkk : k < nn) (hE : ∀ a b, E a b ↔ (a = n ∧ b = 0) ∨ (a = 0 ∧ b = m)) :
    Cong nn N E k 0 ↔ Nat.gcd n m ∣ k := by
  constructor
  · intro hc
    have hv := hc.val (val := fun a => a % Nat.gcd n m) (fun a b hab => by
      have d1 := Nat.gcd_dvd_left n m
      have d2 := Nat.gcd_dvd_right n m
      rcases (hE a b).1 hab with ⟨rfl, rfl⟩ | ⟨rfl, rfl⟩
      · show a % _ = 0 % _
        rw [Nat.mod_eq_zero_of_dvd d1, Nat.zero_mod]
      · show 0 % _ = b % _
        rw [Nat.mod_eq_zero_of_dvd d2, Nat.zero_mod]) (fun a b ha hb h1 h2 h3 => by
      show a % _ = b % _
      match a, b with
      | 0, 0 => rfl
      | 0, b + 1 => rw [h.1 ha, h.2 b hb] at h2; simp at h2
      | a + 1, 0 => rw [h.1 hb, h.2 a ha] at h2; simp at h2
      | a + 1, b + 1 =>
        rw [h.2 a ha, h.2 b hb] at h3
        have h4 := h3 0 (by simp)
        have h5 : a % Nat.gcd n m = b % Nat.gcd n m := by simpa using h4
        rw [Nat.add_mod, h5, ← Nat.add_mod])
    have h9 : k % Nat.gcd n m = 0 := by simpa using hv
    exact Nat.dvd_of_mod_eq_zero h9
  · rintro ⟨j, rfl⟩
    have c1 : Cong nn N E n 0 := .eq ((hE _ _).2 (Or.inl ⟨rfl, rfl⟩))
    have c2 : Cong nn N E m 0 := (Cong.eq ((hE _ _).2 (Or.inr ⟨rfl, rfl⟩))).symm
    exact h.times (h.gcd _ n m (Nat.le_refl _) hn hm hnn hmm c1 c2) j hkk
end
end Euf
end Go.Proofs.Ytlonnhnfmcndfad
