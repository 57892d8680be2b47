/- The document's closing of equations, as a function: its least nodes are those of what follows; no statement of the seat is proved here. -/
import Derived.Test.YtlonnhnfmcndfadEufYJTurned
namespace Go.Proofs.Ytlonnhnfmcndfad
open Go.RowKit
set_option linter.unusedVariables false
namespace Euf
/-- r is the least node that is the same as a. -/
def Least (nn : Nat) (N : Nat → ByteArray × List Nat) (E : Nat → Nat → Prop) (a r : Nat) : Prop := r < nn ∧ Cong nn N E r a ∧ ∀ b, b < nn → Cong nn N E b a → r ≤ b
section
variable {nn : Nat} {N : Nat → ByteArray × List Nat} {E : Nat → Nat → Prop}
theorem Least.one {a r r' : Nat} (h : Least nn N E a r) (h' : Least nn N E a r') : r = r' := Nat.le_antisymm (h.2.2 r' h'.1 h'.2.1) (h'.2.2 r h.1 h.2.1)
end
/-- The least node that the classes tell. -/
theorem find_least {f : Fx} {t : Tx} {s : Sx} (ht : TOk f t none) (hf : FOk f) (hs : Sem f f.ne s) (hI : Inv f.np f.P s.ns s.S s.sg [] []) (hn : s.ns = f.np) {a : Nat} (ha : a < t.nn) :
    ∃ r : Nat, (s.S (s.S (f.W a)).cls).least = (r : Int) ∧ Least t.nn t.N (EqOf f) a r := by
  have wa := (ht.whole a ha).1
  have hc := hI.lt (f.W a) (by omega)
  have hr := hI.rep (f.W a) (by omega)
  obtain ⟨⟨i, i1, i2, i3⟩, hmin⟩ := hs.least _ hc hr
  have hS := hs.sound _ _ (cval_model (E := EqOf f) ht) (fun k hk => by
      have he := hf.eqs k hk
      rw [ht.nw] at he
      rw [cval_whole ht he.1, cval_whole ht he.2.1]
      congr 1
      have c : Cong t.nn t.N (EqOf f) (f.E k).1 (f.E k).2.1 := .eq ⟨k, hk, rfl, rfl⟩
      exact funext fun b => propext ⟨fun h => (c.symm).trans h, fun h => c.trans h⟩)
  have h1 := hS.s (f.W a) (by omega)
  have h2 := hS.s i i1
  rw [i2, ← h1, cval_whole ht ha] at h2
  have hw : ∃ b, b < t.nn ∧ f.W b = i := by
    generalize hl : t.lab i = lb
    obtain ⟨sn, n, l⟩ := lb
    by_cases e : l.length = n
    · exact (ht.node i sn n l (by omega) hl).2.1 (by simp) e
    · have := (ht.node i sn n l (by omega) hl).1
      rw [cval_part hl (by omega)] at h2
      cases h2
  obtain ⟨b, hb, hwb⟩ := hw
  have hnb : (f.P i).node = (b : Int) := by rw [← hwb]; exact (ht.whole b hb).2.2
  refine ⟨b, by rw [← i3, hnb], hb, ?_, fun x hx hxa => ?_⟩
  · rw [← hwb, cval_whole ht hb] at h2
    injection h2 with h2
    rw [congrFun h2 a]; exact .refl _
  · have hcx := (same_iff ht hf hs hI hn hx ha).2 hxa
    have := hmin (f.W x) (by have := (ht.whole x hx).1; omega) hcx
    rw [← i3, hnb, (ht.whole x hx).2.2] at this
    omega
/-! ## The document's way -/
section
variable {nn : Nat} {N : Nat → ByteArray × List Nat} {E : Nat → Nat → Prop} {c : Nat → Nat}
end
end Euf
end Go.Proofs.Ytlonnhnfmcndfad
