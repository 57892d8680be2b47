/- Calls of the laws' walks at any numbers; no statement of the seat is proved here. -/
import Derived.Test.YtlonnhnfmcndfacEufLwJExplains
import Derived.Test.YtlonnhnfmcndfacJoin6Explains
import Derived.Test.YtlonnhnfmcndfacEufFdJExplains
namespace Go.Proofs.Ytlonnhnfmcndfac
open Go.RowKit
set_option linter.unusedVariables false
namespace Euf
theorem Cong.more {nn nn' : Nat} {N N' : Nat → ByteArray × List Nat} {E E' : Nat → Nat → Prop} (hn : nn ≤ nn') (hN : ∀ i, i < nn → N' i = N i) (hE : ∀ x y, E x y → E' x y) {a b : Nat} (h : Cong nn N E a b) : Cong nn' N' E' a b := by
  induction h with
  | refl a => exact .refl a
  | symm _ ih => exact ih.symm
  | trans _ _ ih1 ih2 => exact ih1.trans ih2
  | eq h => exact .eq (hE _ _ h)
  | args ha hb h1 h2 _ ih =>
    refine .args (by omega) (by omega) (by rw [hN _ ha, hN _ hb]; exact h1) (by rw [hN _ ha, hN _ hb]; exact h2) ?_
    rw [hN _ ha, hN _ hb]
    exact ih
section
variable {w0 wr : World} {g : Nat} {d d0 : Gd} {vN vE : Value} {rg : Nat → Value} {bW : Nat} {vL : Value} {k : Nat} {lf : Nat → Nat}
theorem Lw.dR (h : Lw w0 wr g d d0 vN vE rg bW vL k lf) {w' : World} {y : Ly} {s : Sx} (hr : Run d.f d.m d.s d.f.ne s) (hG : GW w' g (dR d d.f.ne y s)) (hM : Mv (Fg g d) wr w') (hF : ∀ c, Fg g (Euf.dR d d.f.ne y s) c → Fg g d c ∨ wr.heap.size ≤ c) : Lw w0 w' g (Euf.dR d d.f.ne y s) d0 vN vE rg bW vL k lf := by
  refine h.mv hM (fun b hb => Or.inl hb) hG (dR_sem h.sem hr) ?_
  rintro b (hb | hb)
  · exact (hF b hb).imp Or.inl id
  · exact Or.inl (Or.inr hb)
end
end Euf
end Go.Proofs.Ytlonnhnfmcndfac
