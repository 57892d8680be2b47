/- Same, Find and Explain of what is no node; no statement of the seat is proved here. -/
import Derived.Test.YtlonnhnfmcndfacEufRaJPlays
import Derived.Test.YtlonnhnfmcndfacEufLwJPlays
namespace Go.Proofs.Ytlonnhnfmcndfac
open Go.RowKit
set_option linter.unusedVariables false
namespace Euf
theorem ai_single {w : World} {b : Nat} {a : Int} (h : w.heap[b]? = some (.cells #[.int .i64 a] 3 (0, 0))) (cap : Nat) : AI w (.slice (some ⟨b, 0, none⟩) 1 cap) [a] := by
  refine ⟨_, cap, rfl, by simp, Or.inr ⟨b, 0, rfl, (Array.getElem?_eq_some_iff.1 h).1, fun i hi => ?_⟩⟩
  have : i = 0 := by simpa using hi
  subst this
  exact cell_of_row w b 0 _ 3 (0, 0) h
set_option maxRecDepth 20000 in
set_option maxHeartbeats 8000000 in
theorem Same_bad (g : Nat) (d : Gd) (a b : Int) (w : World) (h : GW w g d) (hz : (okIn d.t.nn a && okIn d.t.nn b) = false) (hnn : d.t.nn ≤ 10000) :
    Calls Try.prog 11 #[.pointer (some ⟨g, 0, none⟩), .int .i64 a, .int .i64 b] w fun e w' => e = .returned (.tuple #[.bool false, .int .i64 50]) ∧ Below w.heap.size w w' := by
  obtain ⟨c0, -, -, -, -, -, -, -, -, -⟩ := h.cw.cells
  obtain ⟨an, cn, hvn, -, -, -, -⟩ := h.nodes.shape
  rw [hvn] at c0
  have hgl := h.cw.lt
  have kb : (w.alloc (.cells #[.int .i64 a, .int .i64 b] 3 (0, 0))).heap[w.heap.size]? = _ := heap_alloc_new w _
  have hb0 : Below w.heap.size w (w.alloc (.cells #[.int .i64 a, .int .i64 b] 3 (0, 0))) := (Below.refl _ _).alloc (Nat.le_refl _) _
  have hai := ai_two kb 2
  have c0' := (hb0.cell (p := ⟨g, 0, none⟩) hgl).trans c0
  have HZ : Hid (([a, b]).all (okIn d.t.nn) = false) := by show _ = _; simpa using hz
  clear h hvn c0 kb hz
  go_enter Try.func11, Try.ntmps11
  go_wp2_with fail
  refine (isNode_any g an d.t.nn cn _ _ false _ c0' (by omega) hai HZ.out).mono ?_
  rintro e w1 ⟨rfl, hb1⟩
  replace hb1 : Below w.heap.size w w1 := hb0.trans (hb1.mono hb0.size)
  clear hb0 hai c0'
  go_wp2
  refine bodyPost_ret (v := .tuple #[.bool false, .int .i64 50]) (by simp [results, Try.results11, go_sem]) rfl ?_
  exact ⟨rfl, hb1⟩
set_option maxRecDepth 20000 in
set_option maxHeartbeats 8000000 in
theorem Find_bad (g : Nat) (d : Gd) (a : Int) (w : World) (h : GW w g d) (hz : okIn d.t.nn a = false) (hnn : d.t.nn ≤ 10000) :
    Calls Try.prog 12 #[.pointer (some ⟨g, 0, none⟩), .int .i64 a] w fun e w' => e = .returned (.tuple #[.int .i64 0, .int .i64 50]) ∧ Below w.heap.size w w' := by
  obtain ⟨c0, -, -, -, -, -, -, -, -, -⟩ := h.cw.cells
  obtain ⟨an, cn, hvn, -, -, -, -⟩ := h.nodes.shape
  rw [hvn] at c0
  have hgl := h.cw.lt
  have kb : (w.alloc (.cells #[.int .i64 a] 3 (0, 0))).heap[w.heap.size]? = _ := heap_alloc_new w _
  have hb0 : Below w.heap.size w (w.alloc (.cells #[.int .i64 a] 3 (0, 0))) := (Below.refl _ _).alloc (Nat.le_refl _) _
  have hai := ai_single kb 1
  have c0' := (hb0.cell (p := ⟨g, 0, none⟩) hgl).trans c0
  have HZ : Hid (([a]).all (okIn d.t.nn) = false) := by show _ = _; simpa using hz
  clear h hvn c0 kb hz
  go_enter Try.func12, Try.ntmps12
  go_wp2_with fail
  refine (isNode_any g an d.t.nn cn _ _ false _ c0' (by omega) hai HZ.out).mono ?_
  rintro e w1 ⟨rfl, hb1⟩
  replace hb1 : Below w.heap.size w w1 := hb0.trans (hb1.mono hb0.size)
  clear hb0 hai c0'
  go_wp2
  refine bodyPost_ret (v := .tuple #[.int .i64 0, .int .i64 50]) (by simp [results, Try.results12, go_sem]) rfl ?_
  exact ⟨rfl, hb1⟩
section
variable {w0 wr : World} {g : Nat} {d d0 : Gd} {vN vE : Value} {rg : Nat → Value} {bW : Nat}
/-- A new list of numbers. -/
theorem Lw.setList {k0 : Nat} {lf0 : Nat → Nat} {vL : Value} (h : Lw w0 wr g d d0 vN vE rg bW vL k0 lf0) {w' : World} {bC k cap : Nat} {c : Nat → Nat} (hb : Below wr.heap.size wr w') (hl : OL 1 3 w' (.slice (some ⟨bC, 0, none⟩) k cap) k (fun i => [.int .i64 (c i : Nat)])) (hc : wr.heap.size ≤ bC) : Lw w0 w' g d d0 vN vE rg bW (.slice (some ⟨bC, 0, none⟩) k cap) k c := by
  have h' := h.below hb
  have hsz := h.bel.size
  refine { h' with list := hl, apL := fun b hb' => ?_, apZ := fun b hb' => ⟨(h.apZ b hb').1, (h.apZ b hb').2.1, fun e => ?_⟩ }
  · injection hb' with hb'
    have hb2 : bC = b := hb'
    subst hb2
    exact ⟨fun hf => by have := h.gw.hlt hf; omega, fun e => by have := h.bw.lt; omega, by omega⟩
  · injection e with e
    have e2 : bC = b := e
    subst e2
    have := h.r.lt hb'; omega
end
end Euf
end Go.Proofs.Ytlonnhnfmcndfac
