/- The page's example: what follows in it; no statement of the seat is proved here. -/
import Derived.Test.YtmnpefiaelpkfacEufSpJClasses
import Derived.Test.YtmnpefiaelpkfacEufXpJClasses
namespace Go.Proofs.Ytmnpefiaelpkfac
open Go.RowKit
set_option linter.unusedVariables false
namespace Euf
def awA : As := ([(sA, []), (sF, [0]), (sF, [1]), (sF, [2])], [(2, 0), (3, 0)])
section
variable {d : Gd}
theorem aw_n (h : Abs d awA) : d.t.nn = 4 ∧ d.f.ne = 2 ∧ ChainN sA sF 4 d.t.N ∧ (d.f.E 0).1 = 2 ∧ (d.f.E 0).2.1 = 0 ∧ (d.f.E 1).1 = 3 ∧ (d.f.E 1).2.1 = 0 := by
  have e0 := h.E 0 (by decide)
  have e1 := h.E 1 (by decide)
  have n0 : d.t.N 0 = (sA, []) := h.N 0 (by decide)
  have n1 : d.t.N 1 = (sF, [0]) := h.N 1 (by decide)
  have n2 : d.t.N 2 = (sF, [1]) := h.N 2 (by decide)
  have n3 : d.t.N 3 = (sF, [2]) := h.N 3 (by decide)
  refine ⟨h.nn, h.ne, ⟨fun _ => n0, fun i hi => ?_⟩, ?_, ?_, ?_, ?_⟩
  · match i, hi with
    | 0, _ => exact n1
    | 1, _ => exact n2
    | 2, _ => exact n3
    | i + 3, h9 => omega
  · exact congrArg Prod.fst e0
  · exact congrArg Prod.snd e0
  · exact congrArg Prod.fst e1
  · exact congrArg Prod.snd e1
theorem chain_mod {sa sf : ByteArray} {nn q : Nat} {N : Nat → ByteArray × List Nat} {E : Nat → Nat → Prop} (h : ChainN sa sf nn N) (hE : ∀ a b, E a b → a % q = b % q) {a b : Nat} (hc : Cong nn N E a b) : a % q = b % q :=
  hc.val (val := fun a => a % q) (fun a b hab => hE a b hab) (fun a b ha hb h1 h2 h3 => by
    show a % _ = b % _
    match a, b with
    | 0, 0 => rfl
    | 0, b + 1 => rw [h.1 ha, h.2 b hb] at h2; simp at h2
    | a + 1, 0 => rw [h.1 hb, h.2 a ha] at h2; simp at h2
    | a + 1, b + 1 =>
      rw [h.2 a ha, h.2 b hb] at h3
      have h4 := h3 0 (by simp)
      have h5 : a % q = b % q := by simpa using h4
      rw [Nat.add_mod, h5, ← Nat.add_mod])
theorem aw_same (h : Abs d awA) : Cong d.t.nn d.t.N (EqOf d.f) 0 1 := by
  obtain ⟨h1, h2, h3, a1, a2, a3, a4⟩ := aw_n h
  rw [h1]
  have c1 : Cong 4 d.t.N (EqOf d.f) 2 0 := .eq ⟨0, by omega, a1, a2⟩
  have c2 : Cong 4 d.t.N (EqOf d.f) 3 0 := .eq ⟨1, by omega, a3, a4⟩
  exact c2.symm.trans (h3.shift c1 1 (by omega) (by omega))
theorem two_of {l : List Int} (hr : l.Pairwise (· < ·)) (hlt : ∀ z ∈ l, z = 0 ∨ z = 1) (h0 : (0 : Int) ∈ l) (h1 : (1 : Int) ∈ l) : l.length = 2 := by
  match l, hr, hlt, h0, h1 with
  | [], _, _, h0, _ => cases h0
  | [x], _, _, h0, h1 => simp at h0 h1; omega
  | [x, y], _, _, _, _ => rfl
  | x :: y :: z :: r, hr, hlt, _, _ =>
    simp at hr
    have e1 := hlt x (by simp)
    have e2 := hlt y (by simp)
    have e3 := hlt z (by simp)
    have := hr.1.1
    have := hr.2.1.1
    omega
theorem aw_told (h : Abs d awA) {l : List Int} (ht : Told d 1 0 l) : l.length = 2 := by
  obtain ⟨h1, h2, h3, a1, a2, a3, a4⟩ := aw_n h
  have hf := ht.follow
  rw [h1] at hf
  have hlt : ∀ z ∈ l, z = 0 ∨ z = 1 := fun z hz => by
    obtain ⟨k, hk, rfl⟩ := ht.lt z hz
    omega
  refine two_of ht.rise hlt (Classical.byContradiction fun hn => ?_) (Classical.byContradiction fun hn => ?_)
  · have := chain_mod (q := 3) h3 (fun a b hab => by
      obtain ⟨k, k1, k2, k3, k4⟩ := hab
      have hk : k = 0 ∨ k = 1 := by omega
      rcases hk with rfl | rfl
      · exact absurd k2 hn
      · omega) hf
    omega
  · have := chain_mod (q := 2) h3 (fun a b hab => by
      obtain ⟨k, k1, k2, k3, k4⟩ := hab
      have hk : k = 0 ∨ k = 1 := by omega
      rcases hk with rfl | rfl
      · omega
      · exact absurd k2 hn) hf
    omega
end
end Euf
end Go.Proofs.Ytmnpefiaelpkfac
