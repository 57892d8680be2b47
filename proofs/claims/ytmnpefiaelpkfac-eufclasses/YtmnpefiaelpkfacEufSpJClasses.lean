/- One call at both graphs: what holds between; no statement of the seat is proved here. -/
import Derived.Test.YtmnpefiaelpkfacEufRnJClasses
import Derived.Test.YtmnpefiaelpkfacEufChJClasses
import Derived.Test.YtmnpefiaelpkfacEufOdJClasses
namespace Go.Proofs.Ytmnpefiaelpkfac
open Go.RowKit
set_option linter.unusedVariables false
namespace Euf
/-- Nodes and equations, as lists. -/
abbrev As := List (ByteArray × List Nat) × List (Nat × Nat)
def sameNd (x y : ByteArray × List Nat) : Bool := decide (x.1.data.toList = y.1.data.toList) && decide (x.2 = y.2)
theorem has_iff (l : List (ByteArray × List Nat)) (x : ByteArray × List Nat) : l.any (sameNd x) = true ↔ x ∈ l := by
  rw [List.any_eq_true]
  constructor
  · rintro ⟨⟨⟨⟨y1⟩⟩, y2⟩, hy, e⟩
    obtain ⟨⟨⟨x1⟩⟩, x2⟩ := x
    simp only [sameNd, Bool.and_eq_true, decide_eq_true_eq] at e
    obtain ⟨rfl, rfl⟩ := e
    exact hy
  · intro hx
    exact ⟨x, hx, by simp [sameNd]⟩
def stepA (A : As) (o : OpS) : As :=
  if o.kind = 0 then (if o.zs.all (okIn A.1.length) = true then (if A.1.any (sameNd (o.fn, o.zs.map Int.toNat)) = true then A else (A.1 ++ [(o.fn, o.zs.map Int.toNat)], A.2)) else A)
  else if o.kind = 1 then (if (okIn A.1.length o.a && okIn A.1.length o.b) = true then (A.1, A.2 ++ [(o.a.toNat, o.b.toNat)]) else A)
  else if o.kind = 2 then (if 0 ≤ o.a ∧ o.a ≤ (A.2.length : Int) then (A.1, A.2.take o.a.toNat) else A)
  else A
def no1 : ByteArray × List Nat := (ByteArray.empty, [])
structure Abs (d : Gd) (A : As) : Prop where
  nn : d.t.nn = A.1.length
  N : ∀ i, i < A.1.length → d.t.N i = A.1.getD i no1
  ne : d.f.ne = A.2.length
  E : ∀ k, k < A.2.length → ((d.f.E k).1, (d.f.E k).2.1) = A.2.getD k (0, 0)
theorem Abs.mem {d : Gd} {A : As} (h : Abs d A) (x : ByteArray × List Nat) : x ∈ A.1 ↔ ∃ i, i < d.t.nn ∧ d.t.N i = x := by
  rw [List.mem_iff_getElem]
  constructor
  · rintro ⟨i, hi, e⟩
    refine ⟨i, by rw [h.nn]; exact hi, ?_⟩
    rw [h.N i hi, List.getD_eq_getElem?_getD, List.getElem?_eq_getElem hi]
    exact e
  · rintro ⟨i, hi, e⟩
    rw [h.nn] at hi
    refine ⟨i, hi, ?_⟩
    rw [h.N i hi, List.getD_eq_getElem?_getD, List.getElem?_eq_getElem hi] at e
    exact e
theorem Abs.push {d d' : Gd} {A : As} (h : Abs d A) {x : ByteArray × List Nat} (h1 : d'.t.nn = d.t.nn + 1) (h2 : d'.t.N = upd d.t.N d.t.nn x) (h3 : d'.f.ne = d.f.ne) (h4 : d'.f.E = d.f.E) : Abs d' (A.1 ++ [x], A.2) := by
  refine ⟨by rw [h1, h.nn]; simp, fun i hi => ?_, by rw [h3]; exact h.ne, fun k hk => by rw [h4]; exact h.E k hk⟩
  rw [h2]
  simp only [List.length_append, List.length_singleton] at hi
  by_cases e : i = d.t.nn
  · subst e; rw [upd_same, h.nn]; simp
  · rw [upd_other _ _ e, h.N i (by rw [h.nn] at e; omega), List.getD_eq_getElem?_getD, List.getD_eq_getElem?_getD, List.getElem?_append_left (by rw [h.nn] at e; omega)]
theorem Abs.pushE {d : Gd} {A : As} (h : Abs d A) (v : Value) (a b q : Nat) : Abs (dE d v (a, b, q)) (A.1, A.2 ++ [(a, b)]) := by
  refine ⟨h.nn, h.N, by show d.f.ne + 1 = _; rw [h.ne]; simp, fun k hk => ?_⟩
  show ((upd d.f.E d.f.ne (a, b, q) k).1, (upd d.f.E d.f.ne (a, b, q) k).2.1) = _
  simp only [List.length_append, List.length_singleton] at hk
  by_cases e : k = A.2.length
  · subst e; rw [← h.ne, upd_same, h.ne]; simp
  · rw [upd_other _ _ (by rw [h.ne]; exact e), h.E k (by omega), List.getD_eq_getElem?_getD, List.getD_eq_getElem?_getD, List.getElem?_append_left (by omega)]
theorem Abs.cut {d d' : Gd} {A : As} (h : Abs d A) {n : Nat} (hn : n ≤ A.2.length) (h1 : d'.t = d.t) (h2 : d'.f = { d.f with ne := n }) : Abs d' (A.1, A.2.take n) := by
  refine ⟨by rw [h1]; exact h.nn, by rw [h1]; exact h.N, by rw [h2, List.length_take]; show n = _; omega, fun k hk => ?_⟩
  rw [List.length_take] at hk
  rw [h2]
  show ((d.f.E k).1, (d.f.E k).2.1) = _
  rw [h.E k (by omega), List.getD_eq_getElem?_getD, List.getD_eq_getElem?_getD, List.getElem?_take, if_pos (by omega)]
/-- Both graphs beside each other. -/
structure Ply (w0 w : World) (g : Nat) (d : Gd) (vN vE : Value) (rg : Nat → Value) (t : Nat) : Prop where
  gw : GW w g d
  sem : GSem d
  r : RG w vN vE rg d
  ap : ∀ b, Fz vN vE rg d.t.nn b → ¬ Fh g d b
  fh : ∀ b, Fh g d b → w0.heap.size ≤ b
  fz : ∀ b, Fz vN vE rg d.t.nn b → w0.heap.size ≤ b
  bel : Below w0.heap.size w0 w
  nn : d.t.nn ≤ t
  ne : d.f.ne ≤ t
  np : d.f.np ≤ 21 * t
  al : ∀ i, i < d.t.nn → (d.t.N i).2.length ≤ 20
section
variable {w0 w w' : World} {g : Nat} {d : Gd} {vN vE : Value} {rg : Nat → Value} {t : Nat}
theorem Ply.below (h : Ply w0 w g d vN vE rg t) (hb : Below w.heap.size w w') : Ply w0 w' g d vN vE rg t := { h with gw := h.gw.below hb, r := h.r.below hb, bel := h.bel.trans (hb.mono h.bel.size) }
theorem Ply.more (h : Ply w0 w g d vN vE rg t) : Ply w0 w g d vN vE rg (t + 1) := { h with nn := Nat.le_succ_of_le h.nn, ne := Nat.le_succ_of_le h.ne, np := Nat.le_trans h.np (by omega) }
/-- The graph moves on, the document's too. -/
theorem Ply.move (h : Ply w0 w g d vN vE rg t) {w1 w2 : World} (hb : Below w.heap.size w w1) {F : Nat → Prop} (hM : Mv F w1 w2) (hF : ∀ b, F b → Fh g d b) {d' : Gd} (hG : GW w2 g d') (hs : GSem d') (h1 : ∀ b, Fh g d' b → Fh g d b ∨ w1.heap.size ≤ b)
    {vN' vE' : Value} {rg' : Nat → Value} (hr : RG w1 vN' vE' rg' d') (hz : ∀ b, Fz vN' vE' rg' d'.t.nn b → Fz vN vE rg d.t.nn b ∨ w.heap.size ≤ b) {t' : Nat} (k1 : d'.t.nn ≤ t') (k2 : d'.f.ne ≤ t') (k3 : d'.f.np ≤ 21 * t') (k4 : ∀ i, i < d'.t.nn → (d'.t.N i).2.length ≤ 20) : Ply w0 w2 g d' vN' vE' rg' t' := by
  have hsz := h.bel.size
  have nF : ∀ b, Fz vN' vE' rg' d'.t.nn b → ¬ F b := fun b hb' hf => by
    rcases hz b hb' with h9 | h9
    · exact h.ap b h9 (hF b hf)
    · have := h.gw.hlt (hF b hf); omega
  refine { gw := hG, sem := hs, r := hr.keep (fun b hb' => hM.other b (hr.lt hb') (nF b hb')), ap := fun b hb' hf => ?_, fh := fun b hb' => ?_, fz := fun b hb' => ?_, bel := ?_, nn := k1, ne := k2, np := k3, al := k4 }
  · rcases h1 b hf with h9 | h9
    · rcases hz b hb' with h8 | h8
      · exact h.ap b h8 h9
      · have := h.gw.hlt h9; omega
    · have := hr.lt hb'; omega
  · rcases h1 b hb' with h9 | h9
    · exact h.fh b h9
    · have := hb.size; omega
  · rcases hz b hb' with h9 | h9
    · exact h.fz b h9
    · omega
  · exact (h.bel.trans (hb.mono hsz)).trans (hM.toBelow (Nat.le_trans hsz hb.size) (fun b hb' => h.fh b (hF b hb')))
end
/-- What a call leaves alone. -/
structure Stp (g : Nat) (w : World) (d : Gd) (vN vE : Value) (rg : Nat → Value) (w' : World) (d' : Gd) (vN' vE' : Value) (rg' : Nat → Value) : Prop where
  mv : Mv (Fh g d) w w'
  h : ∀ b, Fh g d' b → Fh g d b ∨ w.heap.size ≤ b
  z : ∀ b, Fz vN' vE' rg' d'.t.nn b → Fz vN vE rg d.t.nn b ∨ w.heap.size ≤ b
theorem Stp.no {g : Nat} {w w' : World} {d : Gd} {vN vE : Value} {rg : Nat → Value} (h : Below w.heap.size w w') : Stp g w d vN vE rg w' d vN vE rg := ⟨Mv.below h, fun _ hb => Or.inl hb, fun _ hb => Or.inl hb⟩
/-- What 'step' leaves. -/
def StepEnd (w0 : World) (g : Nat) (A : As) (o : OpS) (t : Nat) (w : World) (d : Gd) (vN vE : Value) (rg0 : Nat → Value) (e : Ending) (w' : World) : Prop :=
  ∃ (d' : Gd) (aN aE : Option Addr) (cN cE : Nat) (rg : Nat → Value), e = .returned (.tuple #[.agg #[.slice aN d'.t.nn cN, .slice aE d'.f.ne cE], .bool true]) ∧ Ply w0 w' g d' (.slice aN d'.t.nn cN) (.slice aE d'.f.ne cE) rg (t + 1) ∧ Stp g w d vN vE rg0 w' d' (.slice aN d'.t.nn cN) (.slice aE d'.f.ne cE) rg ∧ Abs d' (stepA A o)

set_option maxRecDepth 20000 in
set_option maxHeartbeats 16000000 in
theorem step_x (w0 : World) (g : Nat) (d : Gd) (aN aE : Option Addr) (cN cE : Nat) (rg : Nat → Value) (t : Nat) (A : As) (o : OpS) (aZ : Option Addr) (cZ : Nat) (w : World) (h : Ply w0 w g d (.slice aN d.t.nn cN) (.slice aE d.f.ne cE) rg t) (hA : Abs d A) (ho : OpOk w0 o aZ cZ) (ht : t ≤ 100) (h0 : o.kind ≠ 0) (h1 : o.kind ≠ 1) (h2 : o.kind ≠ 2) :
    Calls Try.prog 12 #[.pointer (some ⟨g, 0, none⟩), .agg #[.slice aN d.t.nn cN, .slice aE d.f.ne cE], opV o aZ cZ] w fun e w' => StepEnd w0 g A o t w d (.slice aN d.t.nn cN) (.slice aE d.f.ne cE) rg e w' := by
  have HP : Hid (Ply w0 w g d (.slice aN d.t.nn cN) (.slice aE d.f.ne cE) rg t) := h
  have HA : Hid (Abs d (stepA A o)) := by
    show Abs d (stepA A o)
    unfold stepA
    rw [if_neg h0, if_neg h1, if_neg h2]; exact hA
  obtain ⟨kd, fn, zs, a, b⟩ := o
  have hk0 : ¬ (kd = 0) := h0
  have hk1 : ¬ (kd = 1) := h1
  have hk2 : ¬ (kd = 2) := h2
  clear h hA ho h0 h1 h2
  unfold opV
  go_enter Try.func12, Try.ntmps12
  go_wp2
  refine bodyPost_ret (v := .tuple #[.agg #[.slice aN d.t.nn cN, .slice aE d.f.ne cE], .bool true]) (by simp [results, Try.results12, go_sem]) rfl ?_
  exact ⟨d, aN, aE, cN, cE, rg, rfl, (HP.out.below (by go_grown)).more, Stp.no (by go_grown), HA.out⟩
end Euf
end Go.Proofs.Ytmnpefiaelpkfac
