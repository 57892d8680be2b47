/- Terms kept in parts: what tables and parts say of each other; no statement of the seat is proved here. -/
import Derived.Test.YtlonnhnfmcndfadEufCJGcd
namespace Go.Proofs.Ytlonnhnfmcndfad
open Go.RowKit
set_option linter.unusedVariables false
namespace Euf
/-- What a part is: its function, for how many arguments, and those that it has. -/
abbrev Lab := ByteArray × Nat × List Nat
structure Tx where
  nn : Nat
  N : Nat → ByteArray × List Nat
  lab : Nat → Lab
  hd : ByteArray × Nat → Option Nat
  pr : Nat × Nat → Option Nat
def fullLab (n : ByteArray × List Nat) : Lab := (n.1, n.2.length, n.2)
/-- Tables, parts and nodes say the same; but the part 'ex' may lack its node. -/
structure TOk (f : Fx) (t : Tx) (ex : Option Lab) : Prop where
  nw : f.nw = t.nn
  inj : ∀ i j, i < f.np → j < f.np → t.lab i = t.lab j → i = j
  hd1 : ∀ s n p, t.hd (s, n) = some p → p < f.np ∧ t.lab p = (s, n, [])
  hd2 : ∀ s n p, p < f.np → t.lab p = (s, n, []) → t.hd (s, n) = some p
  pr1 : ∀ p q r, t.pr (p, q) = some r → r < f.np ∧ p < f.np ∧ ∃ s n l a, t.lab p = (s, n, l) ∧ a < t.nn ∧ f.W a = q ∧ t.lab r = (s, n, l ++ [a])
  pr2 : ∀ r s n l a p, r < f.np → t.lab r = (s, n, l ++ [a]) → p < f.np → t.lab p = (s, n, l) → t.pr (p, f.W a) = some r
  pre : ∀ r s n l a, r < f.np → t.lab r = (s, n, l ++ [a]) → a < t.nn ∧ f.W a < r ∧ ∃ p, p < r ∧ t.lab p = (s, n, l) ∧ (f.P r).front = (p : Nat) ∧ (f.P r).arg = (f.W a : Nat)
  root : ∀ r s n, r < f.np → t.lab r = (s, n, []) → (f.P r).front = -1
  whole : ∀ a, a < t.nn → f.W a < f.np ∧ t.lab (f.W a) = fullLab (t.N a) ∧ (f.P (f.W a)).node = (a : Nat)
  node : ∀ r s n l, r < f.np → t.lab r = (s, n, l) → l.length ≤ n ∧ (some (s, n, l) ≠ ex → l.length = n → ∃ a, a < t.nn ∧ f.W a = r) ∧ ((l.length < n ∨ some (s, n, l) = ex) → (f.P r).node = -1)
  args : ∀ a, a < t.nn → ∀ b ∈ (t.N a).2, b < a
section
variable {f : Fx} {t : Tx} {ex : Option Lab}
theorem TOk.Winj (h : TOk f t ex) {a b : Nat} (ha : a < t.nn) (hb : b < t.nn) (e : f.W a = f.W b) : a = b := by
  have h1 := (h.whole a ha).2.2
  have h2 := (h.whole b hb).2.2
  rw [e, h2] at h1
  omega
theorem TOk.partsOk (h : TOk f t ex) : PartsOk f.np f.P := by
  intro r hr
  obtain ⟨s, n, l⟩ : Lab := t.lab r
  generalize hl : t.lab r = lb
  obtain ⟨s, n, l⟩ := lb
  rcases List.eq_nil_or_concat l with e | ⟨l', a, e⟩
  · subst e; exact Or.inl (h.root r s n hr hl)
  · rw [List.concat_eq_append] at e; subst e
    obtain ⟨_, h1, p, h2, _, h3, h4⟩ := h.pre r s n l' a hr hl
    exact Or.inr ⟨by omega, by omega, by omega, by omega⟩
/-- Whatever has more arguments was made of what has fewer. -/
theorem TOk.prefix (h : TOk f t ex) {s : ByteArray} {n : Nat} (l : List Nat) : ∀ (l2 : List Nat) (r : Nat), r < f.np → t.lab r = (s, n, l ++ l2) → ∃ p, p < f.np ∧ t.lab p = (s, n, l) := by
  intro l2
  induction hn : l2.length generalizing l2 with
  | zero =>
    intro r hr hl
    have : l2 = [] := List.eq_nil_of_length_eq_zero hn
    subst this
    exact ⟨r, hr, by simpa using hl⟩
  | succ k ih =>
    intro r hr hl
    rcases List.eq_nil_or_concat l2 with e | ⟨l', a, e⟩
    · subst e; simp at hn
    · rw [List.concat_eq_append] at e; subst e
      rw [← List.append_assoc] at hl
      obtain ⟨_, _, p, h2, h3, _⟩ := h.pre r s n (l ++ l') a hr hl
      exact ih l' (by simpa using hn) p (by omega) h3
/-- A node of that function and these arguments is just a whole part. -/
theorem TOk.same (h : TOk f t none) {r : Nat} {s : ByteArray} {l : List Nat} (hr : r < f.np) (hl : t.lab r = (s, l.length, l)) : ∃ a, a < t.nn ∧ f.W a = r ∧ t.N a = (s, l) ∧ (f.P r).node = (a : Nat) := by
  obtain ⟨a, ha, hw⟩ := (h.node r s l.length l hr hl).2.1 (by simp) rfl
  obtain ⟨_, h2, h3⟩ := h.whole a ha
  rw [hw, hl] at h2
  rw [hw] at h3
  simp only [fullLab, Prod.mk.injEq] at h2
  exact ⟨a, ha, hw, by rw [h2.1, h2.2.2], h3⟩
/-- A new head. -/
theorem TOk.newHead (h : TOk f t ex) {s : ByteArray} {n : Nat} (hno : t.hd (s, n) = none) (hex : n = 0 → ex = some (s, n, [])) (P' : Nat → Part) (hP : P' = upd f.P f.np ⟨-1, -1, -1⟩) :
    TOk { f with np := f.np + 1, P := P' } { t with lab := upd t.lab f.np (s, n, []), hd := fun k => if k = (s, n) then some f.np else t.hd k } ex := by
  subst hP
  have hne : ∀ i, i < f.np → t.lab i ≠ (s, n, []) := fun i hi e => by rw [h.hd2 s n i hi e] at hno; cases hno
  have L : ∀ i, i < f.np → upd t.lab f.np (s, n, []) i = t.lab i := fun i hi => upd_other _ _ (by omega)
  have PL : ∀ i, i < f.np → upd f.P f.np ⟨-1, -1, -1⟩ i = f.P i := fun i hi => upd_other _ _ (by omega)
  refine { nw := h.nw, inj := ?_, hd1 := ?_, hd2 := ?_, pr1 := ?_, pr2 := ?_, pre := ?_, root := ?_, whole := ?_, node := ?_, args := h.args }
  · intro i j hi hj e
    replace hi : i < f.np + 1 := hi
    replace hj : j < f.np + 1 := hj
    replace e : upd t.lab f.np (s, n, []) i = upd t.lab f.np (s, n, []) j := e
    by_cases e1 : i = f.np
    · by_cases e2 : j = f.np
      · omega
      · subst e1; rw [upd_same, L j (by omega)] at e; exact absurd e.symm (hne j (by omega))
    · by_cases e2 : j = f.np
      · subst e2; rw [upd_same, L i (by omega)] at e; exact absurd e (hne i (by omega))
      · rw [L i (by omega), L j (by omega)] at e; exact h.inj i j (by omega) (by omega) e
  · intro s' n' p hp
    show p < f.np + 1 ∧ upd t.lab f.np (s, n, []) p = (s', n', [])
    replace hp : (if (s', n') = (s, n) then some f.np else t.hd (s', n')) = some p := hp
    split at hp
    · rename_i e; cases hp; injection e with e1 e2; subst e1 e2; exact ⟨by omega, upd_same _ _ _⟩
    · obtain ⟨h1, h2⟩ := h.hd1 s' n' p hp; exact ⟨by omega, by rw [L p h1]; exact h2⟩
  · intro s' n' p hp hl
    replace hp : p < f.np + 1 := hp
    replace hl : upd t.lab f.np (s, n, []) p = (s', n', []) := hl
    show (if (s', n') = (s, n) then some f.np else t.hd (s', n')) = some p
    by_cases e : p = f.np
    · subst e; rw [upd_same] at hl; cases hl; simp
    · rw [L p (by omega)] at hl
      have hne' : (s', n') ≠ (s, n) := fun e2 => by injection e2 with e1 e2; subst e1 e2; exact hne p (by omega) hl
      rw [if_neg hne']; exact h.hd2 s' n' p (by omega) hl
  · intro p q r hr
    obtain ⟨h1, h2, s', n', l, a, h3, h4, h5, h6⟩ := h.pr1 p q r hr
    exact ⟨Nat.lt_succ_of_lt h1, Nat.lt_succ_of_lt h2, s', n', l, a, (L p h2).trans h3, h4, h5, (L r h1).trans h6⟩
  · intro r s' n' l a p hr hl hp hl2
    replace hr : r < f.np + 1 := hr
    replace hp : p < f.np + 1 := hp
    replace hl : upd t.lab f.np (s, n, []) r = (s', n', l ++ [a]) := hl
    replace hl2 : upd t.lab f.np (s, n, []) p = (s', n', l) := hl2
    have e1 : r ≠ f.np := fun e => by subst e; rw [upd_same] at hl; simp at hl
    rw [L r (by omega)] at hl
    by_cases e2 : p = f.np
    · subst e2; rw [upd_same] at hl2
      obtain ⟨_, _, p', h2, h3, _⟩ := h.pre r s' n' l a (by omega) hl
      rw [← hl2] at h3
      exact absurd h3 (hne p' (by omega))
    · rw [L p (by omega)] at hl2
      exact h.pr2 r s' n' l a p (by omega) hl (by omega) hl2
  · intro r s' n' l a hr hl
    replace hr : r < f.np + 1 := hr
    replace hl : upd t.lab f.np (s, n, []) r = (s', n', l ++ [a]) := hl
    have e1 : r ≠ f.np := fun e => by subst e; rw [upd_same] at hl; simp at hl
    rw [L r (by omega)] at hl
    obtain ⟨h1, h2, p, h3, h4, h5, h6⟩ := h.pre r s' n' l a (by omega) hl
    refine ⟨h1, h2, p, h3, (L p (by omega)).trans h4, ?_, ?_⟩
    · show (upd f.P f.np ⟨-1, -1, -1⟩ r).front = _; rw [PL r (by omega)]; exact h5
    · show (upd f.P f.np ⟨-1, -1, -1⟩ r).arg = _; rw [PL r (by omega)]; exact h6
  · intro r s' n' hr hl
    replace hr : r < f.np + 1 := hr
    replace hl : upd t.lab f.np (s, n, []) r = (s', n', []) := hl
    show (upd f.P f.np ⟨-1, -1, -1⟩ r).front = -1
    by_cases e : r = f.np
    · subst e; rw [upd_same]
    · rw [PL r (by omega)]; rw [L r (by omega)] at hl; exact h.root r s' n' (by omega) hl
  · intro a ha
    obtain ⟨h1, h2, h3⟩ := h.whole a ha
    refine ⟨Nat.lt_succ_of_lt h1, (L _ h1).trans h2, ?_⟩
    show (upd f.P f.np ⟨-1, -1, -1⟩ (f.W a)).node = _; rw [PL _ h1]; exact h3
  · intro r s' n' l hr hl
    replace hr : r < f.np + 1 := hr
    replace hl : upd t.lab f.np (s, n, []) r = (s', n', l) := hl
    show l.length ≤ n' ∧ (some (s', n', l) ≠ ex → l.length = n' → ∃ a, a < t.nn ∧ f.W a = r) ∧ ((l.length < n' ∨ some (s', n', l) = ex) → (upd f.P f.np ⟨-1, -1, -1⟩ r).node = -1)
    by_cases e : r = f.np
    · subst e; rw [upd_same] at hl ⊢
      cases hl
      refine ⟨Nat.zero_le _, fun h1 h2 => ?_, fun _ => rfl⟩
      have h0 : n = 0 := h2.symm
      exact absurd (hex h0).symm h1
    · rw [PL r (by omega)]; rw [L r (by omega)] at hl; exact h.node r s' n' l (by omega) hl
/-- A new part with one argument more. -/
theorem TOk.newPart (h : TOk f t ex) {s : ByteArray} {n : Nat} {l : List Nat} {a p : Nat} (hp : p < f.np) (hl : t.lab p = (s, n, l)) (ha : a < t.nn) (hln : l.length < n) (hno : t.pr (p, f.W a) = none) (hex : l.length + 1 = n → ex = some (s, n, l ++ [a])) (P' : Nat → Part) (hP : P' = upd f.P f.np ⟨(p : Nat), (f.W a : Nat), -1⟩) :
    TOk { f with np := f.np + 1, P := P' } { t with lab := upd t.lab f.np (s, n, l ++ [a]), pr := fun k => if k = (p, f.W a) then some f.np else t.pr k } ex := by
  subst hP
  have hne : ∀ i, i < f.np → t.lab i ≠ (s, n, l ++ [a]) := fun i hi e => by rw [h.pr2 i s n l a p hi e hp hl] at hno; cases hno
  have L : ∀ i, i < f.np → upd t.lab f.np (s, n, l ++ [a]) i = t.lab i := fun i hi => upd_other _ _ (by omega)
  have PL : ∀ i, i < f.np → upd f.P f.np ⟨(p : Nat), (f.W a : Nat), -1⟩ i = f.P i := fun i hi => upd_other _ _ (by omega)
  have hWa := (h.whole a ha).1
  refine { nw := h.nw, inj := ?_, hd1 := ?_, hd2 := ?_, pr1 := ?_, pr2 := ?_, pre := ?_, root := ?_, whole := ?_, node := ?_, args := h.args }
  · intro i j hi hj e
    replace hi : i < f.np + 1 := hi
    replace hj : j < f.np + 1 := hj
    replace e : upd t.lab f.np (s, n, l ++ [a]) i = upd t.lab f.np (s, n, l ++ [a]) j := e
    by_cases e1 : i = f.np
    · by_cases e2 : j = f.np
      · omega
      · subst e1; rw [upd_same, L j (by omega)] at e; exact absurd e.symm (hne j (by omega))
    · by_cases e2 : j = f.np
      · subst e2; rw [upd_same, L i (by omega)] at e; exact absurd e (hne i (by omega))
      · rw [L i (by omega), L j (by omega)] at e; exact h.inj i j (by omega) (by omega) e
  · intro s' n' q hq
    obtain ⟨h1, h2⟩ := h.hd1 s' n' q hq; exact ⟨Nat.lt_succ_of_lt h1, (L q h1).trans h2⟩
  · intro s' n' q hq hl'
    replace hq : q < f.np + 1 := hq
    replace hl' : upd t.lab f.np (s, n, l ++ [a]) q = (s', n', []) := hl'
    have e1 : q ≠ f.np := fun e => by subst e; rw [upd_same] at hl'; simp at hl'
    rw [L q (by omega)] at hl'
    exact h.hd2 s' n' q (by omega) hl'
  · intro p' q' r hr
    replace hr : (if (p', q') = (p, f.W a) then some f.np else t.pr (p', q')) = some r := hr
    show r < f.np + 1 ∧ p' < f.np + 1 ∧ ∃ s' n' l' a', upd t.lab f.np (s, n, l ++ [a]) p' = (s', n', l') ∧ a' < t.nn ∧ f.W a' = q' ∧ upd t.lab f.np (s, n, l ++ [a]) r = (s', n', l' ++ [a'])
    split at hr
    · rename_i e; cases hr; injection e with e1 e2; subst e1 e2
      exact ⟨by omega, by omega, s, n, l, a, (L p' hp).trans hl, ha, rfl, upd_same _ _ _⟩
    · obtain ⟨h1, h2, s', n', l', a', h3, h4, h5, h6⟩ := h.pr1 p' q' r hr
      exact ⟨by omega, by omega, s', n', l', a', (L p' h2).trans h3, h4, h5, (L r h1).trans h6⟩
  · intro r s' n' l' a' p' hr hl1 hp' hl2
    replace hr : r < f.np + 1 := hr
    replace hp' : p' < f.np + 1 := hp'
    replace hl1 : upd t.lab f.np (s, n, l ++ [a]) r = (s', n', l' ++ [a']) := hl1
    replace hl2 : upd t.lab f.np (s, n, l ++ [a]) p' = (s', n', l') := hl2
    show (if (p', f.W a') = (p, f.W a) then some f.np else t.pr (p', f.W a')) = some r
    by_cases e1 : r = f.np
    · subst e1
      rw [upd_same] at hl1
      simp only [Prod.mk.injEq] at hl1
      obtain ⟨rfl, rfl, hll⟩ := hl1
      have hll2 := List.append_inj' hll rfl
      obtain ⟨rfl, haa⟩ := hll2
      cases haa
      have e3 : p' ≠ f.np := fun e => by
        subst e; rw [upd_same] at hl2
        simp only [Prod.mk.injEq, true_and] at hl2
        have := congrArg List.length hl2
        simp at this
      rw [L p' (by omega)] at hl2
      have : p' = p := h.inj p' p (by omega) hp (hl2.trans hl.symm)
      rw [this]; simp
    · rw [L r (by omega)] at hl1
      by_cases e2 : p' = f.np
      · subst e2; rw [upd_same] at hl2
        obtain ⟨_, _, p'', h2, h3, _⟩ := h.pre r s' n' l' a' (by omega) hl1
        rw [← hl2] at h3
        exact absurd h3 (hne p'' (by omega))
      · rw [L p' (by omega)] at hl2
        have h9 := h.pr2 r s' n' l' a' p' (by omega) hl1 (by omega) hl2
        have hne2 : (p', f.W a') ≠ (p, f.W a) := fun e => by
          injection e with e3 e4
          rw [e3, e4, hno] at h9; cases h9
        rw [if_neg hne2]; exact h9
  · intro r s' n' l' a' hr hl1
    replace hr : r < f.np + 1 := hr
    replace hl1 : upd t.lab f.np (s, n, l ++ [a]) r = (s', n', l' ++ [a']) := hl1
    by_cases e1 : r = f.np
    · subst e1
      rw [upd_same] at hl1
      simp only [Prod.mk.injEq] at hl1
      obtain ⟨rfl, rfl, hll⟩ := hl1
      obtain ⟨rfl, haa⟩ := List.append_inj' hll rfl
      cases haa
      refine ⟨ha, hWa, p, hp, (L p hp).trans hl, ?_, ?_⟩
      · show (upd f.P f.np ⟨(p : Nat), (f.W a : Nat), -1⟩ f.np).front = _; rw [upd_same]
      · show (upd f.P f.np ⟨(p : Nat), (f.W a : Nat), -1⟩ f.np).arg = _; rw [upd_same]
    · rw [L r (by omega)] at hl1
      obtain ⟨h1, h2, p', h3, h4, h5, h6⟩ := h.pre r s' n' l' a' (by omega) hl1
      refine ⟨h1, h2, p', h3, (L p' (by omega)).trans h4, ?_, ?_⟩
      · show (upd f.P f.np ⟨(p : Nat), (f.W a : Nat), -1⟩ r).front = _; rw [PL r (by omega)]; exact h5
      · show (upd f.P f.np ⟨(p : Nat), (f.W a : Nat), -1⟩ r).arg = _; rw [PL r (by omega)]; exact h6
  · intro r s' n' hr hl1
    replace hr : r < f.np + 1 := hr
    replace hl1 : upd t.lab f.np (s, n, l ++ [a]) r = (s', n', []) := hl1
    have e1 : r ≠ f.np := fun e => by subst e; rw [upd_same] at hl1; simp at hl1
    rw [L r (by omega)] at hl1
    show (upd f.P f.np ⟨(p : Nat), (f.W a : Nat), -1⟩ r).front = -1
    rw [PL r (by omega)]; exact h.root r s' n' (by omega) hl1
  · intro b hb
    obtain ⟨h1, h2, h3⟩ := h.whole b hb
    refine ⟨Nat.lt_succ_of_lt h1, (L _ h1).trans h2, ?_⟩
    show (upd f.P f.np ⟨(p : Nat), (f.W a : Nat), -1⟩ (f.W b)).node = _; rw [PL _ h1]; exact h3
  · intro r s' n' l' hr hl1
    replace hr : r < f.np + 1 := hr
    replace hl1 : upd t.lab f.np (s, n, l ++ [a]) r = (s', n', l') := hl1
    show l'.length ≤ n' ∧ (some (s', n', l') ≠ ex → l'.length = n' → ∃ a, a < t.nn ∧ f.W a = r) ∧ ((l'.length < n' ∨ some (s', n', l') = ex) → (upd f.P f.np ⟨(p : Nat), (f.W a : Nat), -1⟩ r).node = -1)
    by_cases e : r = f.np
    · subst e; rw [upd_same] at hl1 ⊢
      cases hl1
      refine ⟨by simp; omega, fun h1 h2 => ?_, fun _ => rfl⟩
      have h0 : l.length + 1 = n := by simpa using h2
      exact absurd (hex h0).symm h1
    · rw [PL r (by omega)]; rw [L r (by omega)] at hl1; exact h.node r s' n' l' (by omega) hl1
/-- The part gets its node. -/
theorem TOk.newNode {s : ByteArray} {l : List Nat} {p : Nat} (h : TOk f t (some (s, l.length, l))) (hp : p < f.np) (hl : t.lab p = (s, l.length, l)) (hal : ∀ b ∈ l, b < t.nn) (hfr : ∀ b, b < t.nn → f.W b ≠ p) (P' : Nat → Part) (hP : P' = upd f.P p { f.P p with node := (t.nn : Nat) }) (W' : Nat → Nat) (hW : W' = upd f.W t.nn p) (N' : Nat → ByteArray × List Nat) (hN : N' = upd t.N t.nn (s, l)) :
    TOk { f with P := P', nw := f.nw + 1, W := W' } { t with nn := t.nn + 1, N := N' } none := by
  subst hP hW hN
  have WL : ∀ b, b < t.nn → upd f.W t.nn p b = f.W b := fun b hb => upd_other _ _ (by omega)
  have NL : ∀ b, b < t.nn → upd t.N t.nn (s, l) b = t.N b := fun b hb => upd_other _ _ (by omega)
  have PF : ∀ r, (upd f.P p { f.P p with node := (t.nn : Nat) } r).front = (f.P r).front ∧ (upd f.P p { f.P p with node := (t.nn : Nat) } r).arg = (f.P r).arg := fun r => by
    by_cases e : r = p
    · subst e; rw [upd_same]; exact ⟨rfl, rfl⟩
    · rw [upd_other _ _ e]; exact ⟨rfl, rfl⟩
  refine { nw := ?_, inj := h.inj, hd1 := h.hd1, hd2 := h.hd2, pr1 := ?_, pr2 := ?_, pre := ?_, root := ?_, whole := ?_, node := ?_, args := ?_ }
  · show f.nw + 1 = t.nn + 1; rw [h.nw]
  · intro p' q r hr
    obtain ⟨h1, h2, s', n', l', a, h3, h4, h5, h6⟩ := h.pr1 p' q r hr
    exact ⟨h1, h2, s', n', l', a, h3, Nat.lt_succ_of_lt h4, (WL a h4).trans h5, h6⟩
  · intro r s' n' l' a p' hr hl1 hp' hl2
    obtain ⟨h1, _⟩ := h.pre r s' n' l' a hr hl1
    show t.pr (p', upd f.W t.nn p a) = some r
    rw [WL a h1]
    exact h.pr2 r s' n' l' a p' hr hl1 hp' hl2
  · intro r s' n' l' a hr hl1
    obtain ⟨h1, h2, p', h3, h4, h5, h6⟩ := h.pre r s' n' l' a hr hl1
    show a < t.nn + 1 ∧ upd f.W t.nn p a < r ∧ ∃ p', p' < r ∧ t.lab p' = (s', n', l') ∧ (upd f.P p { f.P p with node := (t.nn : Nat) } r).front = (p' : Nat) ∧ (upd f.P p { f.P p with node := (t.nn : Nat) } r).arg = (upd f.W t.nn p a : Nat)
    rw [WL a h1, (PF r).1, (PF r).2]
    exact ⟨by omega, h2, p', h3, h4, h5, h6⟩
  · intro r s' n' hr hl1
    show (upd f.P p { f.P p with node := (t.nn : Nat) } r).front = -1
    rw [(PF r).1]; exact h.root r s' n' hr hl1
  · intro a ha
    replace ha : a < t.nn + 1 := ha
    show upd f.W t.nn p a < f.np ∧ t.lab (upd f.W t.nn p a) = fullLab (upd t.N t.nn (s, l) a) ∧ (upd f.P p { f.P p with node := (t.nn : Nat) } (upd f.W t.nn p a)).node = (a : Nat)
    by_cases e : a = t.nn
    · subst e; rw [upd_same, upd_same, upd_same]; exact ⟨hp, hl, rfl⟩
    · have ha' : a < t.nn := by omega
      obtain ⟨h1, h2, h3⟩ := h.whole a ha'
      rw [WL a ha', NL a ha', upd_other _ _ (hfr a ha')]
      exact ⟨h1, h2, h3⟩
  · intro r s' n' l' hr hl1
    obtain ⟨h1, h2, h3⟩ := h.node r s' n' l' hr hl1
    show l'.length ≤ n' ∧ (some (s', n', l') ≠ none → l'.length = n' → ∃ a, a < t.nn + 1 ∧ upd f.W t.nn p a = r) ∧ ((l'.length < n' ∨ some (s', n', l') = none) → (upd f.P p { f.P p with node := (t.nn : Nat) } r).node = -1)
    refine ⟨h1, fun _ h4 => ?_, fun h4 => ?_⟩
    · by_cases e : r = p
      · exact ⟨t.nn, by omega, by rw [upd_same, e]⟩
      · obtain ⟨a, ha, hw⟩ := h2 (fun e2 => e (by
          injection e2 with e2
          exact h.inj r p hr hp (by rw [hl1, hl, e2]))) h4
        exact ⟨a, by omega, by rw [WL a ha]; exact hw⟩
    · have h5 : l'.length < n' := by
        rcases h4 with h4 | h4
        · exact h4
        · cases h4
      have e : r ≠ p := fun e => by
        subst e; rw [hl] at hl1; cases hl1; omega
      rw [upd_other _ _ e]; exact h3 (Or.inl h5)
  · intro a ha b hb
    replace ha : a < t.nn + 1 := ha
    replace hb : b ∈ (upd t.N t.nn (s, l) a).2 := hb
    by_cases e : a = t.nn
    · subst e; rw [upd_same] at hb; exact hal b hb
    · rw [NL a (by omega)] at hb; exact h.args a (by omega) b hb
/-- While a node is being added its part may lack it. -/
theorem TOk.open (h : TOk f t none) (s : ByteArray) (l : List Nat) (hno : ∀ a, a < t.nn → t.N a ≠ (s, l)) : TOk f t (some (s, l.length, l)) := by
  refine { h with node := fun r s' n' l' hr hl => ?_ }
  obtain ⟨h1, h2, h3⟩ := h.node r s' n' l' hr hl
  refine ⟨h1, fun _ => h2 (by simp), fun h4 => ?_⟩
  rcases h4 with h4 | h4
  · exact h3 (Or.inl h4)
  · exfalso
    injection h4 with h4
    simp only [Prod.mk.injEq] at h4
    obtain ⟨rfl, rfl, rfl⟩ := h4
    obtain ⟨a, ha, _, hn, _⟩ := h.same hr hl
    exact hno a ha hn
end
end Euf
end Go.Proofs.Ytlonnhnfmcndfad
