/- Contracts of top and step beside the graph; they prove no statement of the seat. -/
import Derived.Test.YtlonnhnfmcndfacEufAtJTerms
namespace Go.Proofs.Ytlonnhnfmcndfac
open Go.RowKit
set_option linter.unusedVariables false
namespace Euf
/-- The graph and what is kept while one goes after why. -/
structure EX (w : World) (p g : Nat) (x : Ax) (c : Ac) (d : Gd) : Prop where
  gw : GW w g d
  aw : AW w p g x c d.s.ns
  ap : ∀ b, Fy p x b → ¬ Fh g d b
section
variable {w w' : World} {p g : Nat} {x x' : Ax} {c c' : Ac} {d : Gd}
theorem EX.below (h : EX w p g x c d) (hb : Below w.heap.size w w') : EX w' p g x c d := ⟨h.gw.below hb, h.aw.below hb, h.ap⟩
theorem EX.mv (h : EX w p g x c d) {F : Nat → Prop} (hM : Mv F w w') (hF : ∀ b, F b → Fy p x b ∨ w.heap.size ≤ b) (ha : AW w' p g x' c' d.s.ns) (hy : ∀ b, Fy p x' b → Fy p x b ∨ w.heap.size ≤ b) : EX w' p g x' c' d := by
  refine ⟨h.gw.keep (fun b hb => hM.other b (h.gw.hlt hb) (fun hf => ?_)), ha, fun b hb hf => ?_⟩
  · rcases hF b hf with h9 | h9
    · exact h.ap b h9 hb
    · have := h.gw.hlt hb; omega
  · rcases hy b hb with h9 | h9
    · exact h.ap b h9 hf
    · have := h.gw.hlt hf; omega
end
/-- What 'top' leaves beside the graph. -/
theorem TopEnd.ex {w w' : World} {p g : Nat} {x : Ax} {c : Ac} {d : Gd} {i R : Nat} (h : EX w p g x c d) (ht : TopEnd d.s.S p g x c d.s.ns i R w w') : R < d.s.ns ∧ Up d.s.S (AbG c.ab) i R ∧ ¬ AbG c.ab R ∧ ∃ ab', EX w' p g x { c with ab := ab' } d ∧ AbOk d.s.ns d.s.S ab' ∧ (∀ k, AbG ab' k ↔ AbG c.ab k) ∧ Mv (fun b => b = x.bA) w w' := by
  obtain ⟨h1, h2, h3, ab', h4, h5, h6, h7⟩ := ht
  exact ⟨h1, h2, h3, ab', h.mv h7 (fun b hb => Or.inl (Or.inr (Or.inr (Or.inl hb)))) h4 (fun b hb => Or.inl hb), h5, h6, h7⟩

set_option maxRecDepth 20000 in
set_option maxHeartbeats 8000000 in
theorem step_any (p g : Nat) (x : Ax) (c : Ac) (d : Gd) (k : Nat) (w : World) (h : EX w p g x c d) (hI : Inv d.f.np d.f.P d.s.ns d.s.S d.s.sg [] []) (hab : AbOk d.s.ns d.s.S c.ab) (hk : k < d.s.ns) :
    Calls Try.prog 48 #[.pointer (some ⟨p, 0, none⟩), .int .i64 (k : Nat)] w fun e w' => ∃ a : Int, e = .returned (.int .i64 a) ∧ Next d.s.ns d.s.S (AbG c.ab) k a ∧ ∃ ab', EX w' p g x { c with ab := ab' } d ∧ AbOk d.s.ns d.s.S ab' ∧ (∀ k, AbG ab' k ↔ AbG c.ab k) ∧ Mv (fun b => b = x.bA) w w' := by
  have HE : Hid (EX w p g x c d) := h
  have HA : Hid (AbOk d.s.ns d.s.S c.ab) := hab
  have HI : Hid (Inv d.f.np d.f.P d.s.ns d.s.S d.s.sg [] []) := hI
  obtain ⟨q0, -, -, -, -⟩ := h.aw.cells
  obtain ⟨gs, cap, hv, hc1, hc2⟩ := h.gw.cw.spotsAt hk
  obtain ⟨-, -, -, -, -, -, -, c7, -, -⟩ := h.gw.cw.cells
  rw [hv] at c7
  obtain ⟨-, -, f2, -, -, -, -⟩ := h.gw.cw.spot hv hk
  have hpl := h.aw.lt
  have hgl := h.gw.cw.lt
  have hgs := h.gw.cw.ltS hv
  have hN := h.aw.small
  have hkI : (k : Int) < (d.s.ns : Int) := by omega
  clear h hab hI hv
  by_cases hu : (d.s.S k).up = -1
  · rw [hu] at f2
    have HU : Hid ((d.s.S k).up = -1) := hu
    clear hu
    go_enter Try.func48, Try.ntmps48
    go_wp2
    refine bodyPost_ret (v := .int .i64 (-1)) (by simp [results, Try.results48, go_sem]) rfl ?_
    exact ⟨-1, rfl, Or.inl ⟨rfl, HU.out⟩, c.ab, HE.out, HA.out, fun k => Iff.rfl, Mv.refl _ _⟩
  · obtain ⟨h1, h2, -⟩ := HI.out.upc k hk hu
    obtain ⟨y, hy⟩ : ∃ y : Nat, (d.s.S k).up = (y : Int) := ⟨(d.s.S k).up.toNat, by omega⟩
    rw [hy] at f2
    have hyn : y < d.s.ns := by rw [hy] at h2; simpa using h2
    have HU : Hid ((d.s.S k).up = (y : Int)) := hy
    obtain ⟨n, hn⟩ := HI.out.ups y hyn
    have HN : Hid (Ups d.s.S (y : Int) n) := hn
    have hne : ¬ ((y : Int) = -1) := by omega
    clear hu h1 h2 hy hn
    go_enter Try.func48, Try.ntmps48
    go_wp2_with fail
    refine (top_any d.s.S p g x c d.s.ns y n w HE.out.aw HA.out hyn HN.out).mono ?_
    rintro e w1 ⟨R, rfl, hT⟩
    have HT : Hid _ := hT.ex HE.out
    clear hT
    go_wp2
    refine bodyPost_ret (v := .int .i64 (R : Nat)) (by simp [results, Try.results48, go_sem]) rfl ?_
    obtain ⟨t1, t2, t3, ab', t4, t5, t6, t7⟩ := HT.out
    exact ⟨R, rfl, Or.inr ⟨R, y, rfl, t1, HU.out, t2, t3⟩, ab', t4, t5, t6, t7⟩
end Euf
end Go.Proofs.Ytlonnhnfmcndfac
