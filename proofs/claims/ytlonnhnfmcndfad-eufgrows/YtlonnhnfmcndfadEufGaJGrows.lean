/- Calls of the laws' walks at any numbers; no statement of the seat is proved here. -/
import Derived.Test.YtlonnhnfmcndfadEufLwJGrows
import Derived.Test.YtlonnhnfmcndfadJoin6Grows
import Derived.Test.YtlonnhnfmcndfadEufFdJGrows
namespace Go.Proofs.Ytlonnhnfmcndfad
open Go.RowKit
set_option linter.unusedVariables false
namespace Euf
theorem Cong.more {nn nn' : Nat} {N N' : Nat → ByteArray × List Nat} {E E' : Nat → Nat → Prop} (hn : nn ≤ nn') (hN : ∀ i, i < nn → N' i = N i) (hE : ∀ x y, E x y → E' x y) {a b : Nat} (h : Cong nn N E a b) : Cong nn' N' E' a b := by
  induction h with
  | refl a => exact .refl a
  | symm _ ih => exact ih.symm
  | trans _ _ ih1 ih2 => exact ih1.trans ih2
  | eq h => exact .eq (hE _ _ h)
  | args ha hb h1 h2 _ ih =>
    refine .args (by omega) (by omega) (by rw [hN _ ha, hN _ hb]; exact h1) (by rw [hN _ ha, hN _ hb]; exact h2) ?_
    rw [hN _ ha, hN _ hb]
    exact ih
section
variable {w0 wr : World} {g : Nat} {d d0 : Gd} {vN vE : Value} {rg : Nat → Value} {bW : Nat} {vL : Value} {k : Nat} {lf : Nat → Nat}
theorem Lw.dR (h : Lw w0 wr g d d0 vN vE rg bW vL k lf) {w' : World} {y : Ly} {s : Sx} (hr : Run d.f d.m d.s d.f.ne s) (hG : GW w' g (dR d d.f.ne y s)) (hM : Mv (Fg g d) wr w') (hF : ∀ c, Fg g (Euf.dR d d.f.ne y s) c → Fg g d c ∨ wr.heap.size ≤ c) : Lw w0 w' g (Euf.dR d d.f.ne y s) d0 vN vE rg bW vL k lf := by
  refine h.mv hM (fun b hb => Or.inl hb) hG (dR_sem h.sem hr) ?_
  rintro b (hb | hb)
  · exact (hF b hb).imp Or.inl id
  · exact Or.inl (Or.inr hb)
/-- Equal at any two numbers. -/
theorem equal_lw (h : Lw w0 wr g d d0 vN vE rg bW vL k lf) (a b : Int) (hnn : d.t.nn ≤ 1000) (hne : d.f.ne ≤ 1000) :
    Calls Try.prog 11 #[.pointer (some ⟨g, 0, none⟩), .int .i64 a, .int .i64 b] wr fun e w' => ∃ v d', e = .returned v ∧ Lw w0 w' g d' d0 vN vE rg bW vL k lf ∧ d'.t = d.t ∧ (∀ x y, EqOf d.f x y → EqOf d'.f x y) ∧ d'.f.ne ≤ d.f.ne + 1 ∧ d'.f.np = d.f.np := by
  cases hok : (okIn d.t.nn a && okIn d.t.nn b) with
  | false =>
    refine (Equal_bad g d a b wr h.gw hok (by omega)).mono ?_
    rintro e w' ⟨rfl, hb⟩
    exact ⟨_, d, rfl, h.below hb, rfl, fun x y hxy => hxy, by omega, rfl⟩
  | true =>
    obtain ⟨k1, k2⟩ := Bool.and_eq_true_iff.1 hok
    obtain ⟨na, rfl⟩ : ∃ na : Nat, a = na := ⟨a.toNat, by simp [okIn] at k1; omega⟩
    obtain ⟨nb, rfl⟩ : ∃ nb : Nat, b = nb := ⟨b.toNat, by simp [okIn] at k2; omega⟩
    have ha : na < d.t.nn := by simp [okIn] at k1; omega
    have hb : nb < d.t.nn := by simp [okIn] at k2; omega
    refine (Equal_any g d na nb wr h.gw ha hb (by omega) (by omega)).mono ?_
    rintro e w' ⟨rfl, v', hG, hM, hF⟩
    refine ⟨_, _, rfl, h.mv hM (fun b hb => Or.inl hb) hG (dE_sem h.sem ha hb) (dE_fh hF), rfl, ?_, Nat.le_refl _, rfl⟩
    rintro x y ⟨i, hi, e1, e2⟩
    refine ⟨i, Nat.lt_succ_of_lt hi, ?_, ?_⟩
    · show (upd d.f.E d.f.ne (na, nb, d.f.np) i).1 = x
      rw [upd_other _ _ (by omega)]; exact e1
    · show (upd d.f.E d.f.ne (na, nb, d.f.np) i).2.1 = y
      rw [upd_other _ _ (by omega)]; exact e2
/-- Node("f", 0) where there is a node. -/
theorem node_lw (h : Lw w0 wr g d d0 vN vE rg bW vL k lf) (hn0 : 0 < d.t.nn) (hnn : d.t.nn ≤ 1000) (hnp : d.f.np ≤ 2000) {w1 : World} (hw1 : w1 = wr.alloc (.cells #[.int .i64 0] 3 (0, 0))) :
    Calls Try.prog 10 #[.pointer (some ⟨g, 0, none⟩), .string { data := #[102] }, .slice (some ⟨wr.heap.size, 0, none⟩) 1 1] w1 fun e w' => ∃ v d', e = .returned v ∧ Lw w0 w' g d' d0 vN vE rg bW vL k lf ∧ d.t.nn ≤ d'.t.nn ∧ d'.t.nn ≤ d.t.nn + 1 ∧ (∀ i, i < d.t.nn → d'.t.N i = d.t.N i) ∧ (∀ x y, EqOf d.f x y → EqOf d'.f x y) ∧ d'.f.ne = d.f.ne := by
  have hb : Below wr.heap.size wr w1 := by rw [hw1]; go_grown
  have hc : w1.cell? ⟨wr.heap.size, 0, none⟩ = some (.int .i64 0) := by rw [hw1]; exact Blk.cell (heap_alloc_new wr _) 0
  have h' := h.below hb
  have hseg : Seg .i64 w1 (some ⟨wr.heap.size, 0, none⟩) [0] := Or.inr ⟨_, _, rfl, fun i hi => by simp at hi; subst hi; simpa using hc⟩
  refine (Node_any g d { data := #[102] } [0] (some ⟨wr.heap.size, 0, none⟩) 1 w1 h'.gw h'.sem.ok.t (by decide) (by simp) hseg (fun b off e hf => by injection e with e; injection e with e; subst e; have := h.gw.hlt (fn_fh hf); omega) (fun b hb => by simp at hb; subst hb; exact hn0) (by simp; omega) (by omega)).mono ?_
  rintro e w' ⟨r, rfl, hend⟩
  rcases hend with ⟨_, _, hb2⟩ | ⟨_, _, d', hg, hG, hM, hF, hag⟩
  · exact ⟨_, d, rfl, h'.below hb2, Nat.le_refl _, by omega, fun _ _ => rfl, fun _ _ hxy => hxy, rfl⟩
  · refine ⟨_, d', rfl, h'.mv hM (fun b hb => fn_fh hb) hG (hg.sem h'.sem) (hg.fh hF hag), by rw [hg.nn]; omega, by rw [hg.nn]; omega, fun i hi => by rw [hg.N, upd_other _ _ (by omega)], ?_, hg.ne.1⟩
    rintro x y ⟨i, hi, e1, e2⟩
    exact ⟨i, by rw [hg.ne.1]; exact hi, by rw [hg.ne.2]; exact e1, by rw [hg.ne.2]; exact e2⟩
end
end Euf
end Go.Proofs.Ytlonnhnfmcndfad
