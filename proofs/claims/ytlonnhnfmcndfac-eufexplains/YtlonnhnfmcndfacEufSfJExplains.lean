/- Same, Find and Explain of what is no node; no statement of the seat is proved here. -/
import Derived.Test.YtlonnhnfmcndfacEufRaJExplains
import Derived.Test.YtlonnhnfmcndfacEufLwJExplains
namespace Go.Proofs.Ytlonnhnfmcndfac
open Go.RowKit
set_option linter.unusedVariables false
namespace Euf
set_option maxRecDepth 20000 in
set_option maxHeartbeats 8000000 in
theorem Same_bad (g : Nat) (d : Gd) (a b : Int) (w : World) (h : GW w g d) (hz : (okIn d.t.nn a && okIn d.t.nn b) = false) (hnn : d.t.nn ≤ 10000) :
    Calls Try.prog 11 #[.pointer (some ⟨g, 0, none⟩), .int .i64 a, .int .i64 b] w fun e w' => e = .returned (.tuple #[.bool false, .int .i64 50]) ∧ Below w.heap.size w w' := by
  obtain ⟨c0, -, -, -, -, -, -, -, -, -⟩ := h.cw.cells
  obtain ⟨an, cn, hvn, -, -, -, -⟩ := h.nodes.shape
  rw [hvn] at c0
  have hgl := h.cw.lt
  have kb : (w.alloc (.cells #[.int .i64 a, .int .i64 b] 3 (0, 0))).heap[w.heap.size]? = _ := heap_alloc_new w _
  have hb0 : Below w.heap.size w (w.alloc (.cells #[.int .i64 a, .int .i64 b] 3 (0, 0))) := (Below.refl _ _).alloc (Nat.le_refl _) _
  have hai := ai_two kb 2
  have c0' := (hb0.cell (p := ⟨g, 0, none⟩) hgl).trans c0
  have HZ : Hid (([a, b]).all (okIn d.t.nn) = false) := by show _ = _; simpa using hz
  clear h hvn c0 kb hz
  go_enter Try.func11, Try.ntmps11
  go_wp2_with fail
  refine (isNode_any g an d.t.nn cn _ _ false _ c0' (by omega) hai HZ.out).mono ?_
  rintro e w1 ⟨rfl, hb1⟩
  replace hb1 : Below w.heap.size w w1 := hb0.trans (hb1.mono hb0.size)
  clear hb0 hai c0'
  go_wp2
  refine bodyPost_ret (v := .tuple #[.bool false, .int .i64 50]) (by simp [results, Try.results11, go_sem]) rfl ?_
  exact ⟨rfl, hb1⟩
set_option maxRecDepth 20000 in
set_option maxHeartbeats 8000000 in
theorem Explain_bad (g : Nat) (d : Gd) (a b : Int) (w : World) (h : GW w g d) (hz : (okIn d.t.nn a && okIn d.t.nn b) = false) (hnn : d.t.nn ≤ 10000) :
    Calls Try.prog 18 #[.pointer (some ⟨g, 0, none⟩), .int .i64 a, .int .i64 b] w fun e w' => e = .returned (.tuple #[.slice none 0 0, .int .i64 50]) ∧ Below w.heap.size w w' := by
  have HS : Hid (GW w g d ∧ (okIn d.t.nn a && okIn d.t.nn b) = false ∧ d.t.nn ≤ 10000) := ⟨h, hz, hnn⟩
  clear h hz hnn
  go_enter Try.func18, Try.ntmps18
  go_wp2_with fail
  refine (Same_bad g d a b w HS.out.1 HS.out.2.1 HS.out.2.2).mono ?_
  rintro e w1 ⟨rfl, hb1⟩
  go_wp2
  refine bodyPost_ret (v := .tuple #[.slice none 0 0, .int .i64 50]) (by simp [results, Try.results18, go_sem]) rfl ?_
  exact ⟨rfl, hb1⟩
section
variable {w0 wr : World} {g : Nat} {d d0 : Gd} {vN vE : Value} {rg : Nat → Value} {bW : Nat}
end
end Euf
end Go.Proofs.Ytlonnhnfmcndfac
