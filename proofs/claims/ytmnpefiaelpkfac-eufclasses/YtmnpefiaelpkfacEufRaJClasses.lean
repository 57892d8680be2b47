/- Contracts of the document's Alike and Is, and of refused calls of Node and Equal; they prove no statement of the seat. -/
import Derived.Test.YtmnpefiaelpkfacEufBkJClasses
namespace Go.Proofs.Ytmnpefiaelpkfac
open Go.RowKit
set_option linter.unusedVariables false
namespace Euf
theorem AI.at {w : World} {ao : Option Addr} {n cap : Nat} {zs : List Int} (h : AI w (.slice ao n cap) zs) {i : Nat} (hi : i < zs.length) : n = zs.length ∧ ∃ b off, ao = some ⟨b, off, none⟩ ∧ b < w.heap.size ∧ w.cell? ⟨b, off + i, none⟩ = some (.int .i64 (zs.getD i 0)) := by
  obtain ⟨a1, c1, e1, _, h2⟩ := h
  injection e1 with e1 e2 e3
  refine ⟨e2, ?_⟩
  rcases h2 with h2 | ⟨b, off, k1, k2, k3⟩
  · rw [h2] at hi; simp at hi
  · exact ⟨b, off, e1.trans k1, k2, k3 i hi⟩
theorem AI.len {w : World} {ao : Option Addr} {n cap : Nat} {zs : List Int} (h : AI w (.slice ao n cap) zs) : n = zs.length ∧ zs.length ≤ 1000000 := by
  obtain ⟨a1, c1, e1, h1, h2⟩ := h
  injection e1 with e1 e2 e3
  exact ⟨e2, h1⟩
theorem AI.shape {w : World} {v : Value} {zs : List Int} (h : AI w v zs) : ∃ ao cap, v = .slice ao zs.length cap := by
  obtain ⟨a1, c1, e1, _⟩ := h
  exact ⟨a1, c1, e1⟩
theorem ai_of_ol {w : World} {v : Value} {l : List Nat} (h : OL 1 3 w v l.length (natC l)) (hl : l.length ≤ 1000000) : AI w v (l.map Int.ofNat) := by
  rcases h with ⟨rfl, h0⟩ | ⟨g, cap, cur, rfl, hg, k1, k2, k3, k4⟩
  · have : l = [] := List.eq_nil_of_length_eq_zero h0
    subst this
    exact ⟨none, 0, rfl, by simp, Or.inl rfl⟩
  · refine ⟨some ⟨g, 0, none⟩, cap, by rw [List.length_map], by rw [List.length_map]; exact hl, Or.inr ⟨g, 0, rfl, (Array.getElem?_eq_some_iff.1 hg).1, fun i hi => ?_⟩⟩
    rw [List.length_map] at hi
    rw [cell_of_row w g _ cur 3 (0, 0) hg, Nat.zero_add]
    have := k4 i hi 0 (by omega)
    rw [Nat.mul_one, Nat.add_zero] at this
    rw [this]
    simp [natC, hi]

set_option maxRecDepth 20000 in
set_option maxHeartbeats 8000000 in
theorem Alike_any (va vb : Value) (xs ys : List Int) (w : World) (ha : AI w va xs) (hb : AI w vb ys) :
    Calls Try.prog 8 #[va, vb] w fun e w' => e = .returned (.bool (decide (xs = ys))) ∧ Below w.heap.size w w' := by
  obtain ⟨aa, ca, rfl⟩ := ha.shape
  obtain ⟨ab, cb, rfl⟩ := hb.shape
  have HA : Hid (AI w (.slice aa xs.length ca) xs) := ha
  have HB : Hid (AI w (.slice ab ys.length cb) ys) := hb
  have hla := ha.len.2
  have hlb := hb.len.2
  clear ha hb
  go_enter Try.func8, Try.ntmps8
  by_cases hl : xs.length = ys.length
  · have hlI : (xs.length : Int) = (ys.length : Int) := by omega
    have HL : Hid (xs.length = ys.length) := hl
    rw [hl] at HA ⊢
    clear hlI
    go_wp2
    go_loopw [5] (fun v5 wr => ∃ k : Nat, v5 = .int .i64 (k : Nat) ∧ k ≤ ys.length ∧ Hid (xs.take k = ys.take k) ∧ Below w.heap.size w wr) (fun v _ => ys.length - (intOf v).toNat)
    case atStart => exact ⟨0, rfl, Nat.zero_le _, by show _ = _; simp, Below.refl _ _⟩
    case round =>
      obtain ⟨k, rfl, hk, HT, hbw⟩ := hrel
      by_cases hlt : k < ys.length
      · have hltI : (k : Int) < (ys.length : Int) := by omega
        obtain ⟨-, b1, o1, rfl, hb1, c1⟩ := HA.out.at (i := k) (by rw [HL.out]; exact hlt)
        obtain ⟨-, b2, o2, rfl, hb2, c2⟩ := HB.out.at (i := k) hlt
        have d1 := (hbw.cell (p := ⟨b1, o1 + k, none⟩) hb1).trans c1
        have d2 := (hbw.cell (p := ⟨b2, o2 + k, none⟩) hb2).trans c2
        obtain ⟨x, hx⟩ : ∃ x, x = xs.getD k 0 := ⟨_, rfl⟩
        obtain ⟨y, hy⟩ : ∃ y, y = ys.getD k 0 := ⟨_, rfl⟩
        rw [← hx] at d1
        rw [← hy] at d2
        have gx : xs[k]? = some x := by rw [hx, List.getD_eq_getElem?_getD, List.getElem?_eq_getElem (by rw [HL.out]; exact hlt)]; rfl
        have gy : ys[k]? = some y := by rw [hy, List.getD_eq_getElem?_getD, List.getElem?_eq_getElem hlt]; rfl
        have HG : Hid (xs[k]? = some x ∧ ys[k]? = some y) := ⟨gx, gy⟩
        clear hx hy c1 c2 gx gy
        by_cases hxy : x = y
        · subst hxy
          have HT2 : Hid (xs.take (k + 1) = ys.take (k + 1)) := by
            show _ = _
            rw [List.take_add_one, List.take_add_one, HT.out, HG.out.1, HG.out.2]
          go_wp2
          go_quiet (fail)
          go_wp2
          go_roundw
          case rel => exact ⟨k + 1, by go_num, by omega, HT2.out, ⟨hbw.os, hbw.tape, hbw.output, hbw.size, hbw.block⟩⟩
          case measure => simp [intOf]; omega
        · have HN : Hid (decide (xs = ys) = false) := by
            show _ = _
            rw [decide_eq_false_iff_not]
            intro e
            have h1 := HG.out.1
            rw [e, HG.out.2] at h1
            injection h1 with h1
            exact hxy h1.symm
          go_wp2
          go_quiet (fail)
          go_wp2
          go_ret
          exact ⟨by rw [HN.out]; rfl, ⟨hbw.os, hbw.tape, hbw.output, hbw.size, hbw.block⟩⟩
      · have hltI : ¬ ((k : Int) < (ys.length : Int)) := by omega
        have HN : Hid (decide (xs = ys) = true) := by
          show _ = _
          rw [decide_eq_true_eq]
          have h1 := HT.out
          rw [List.take_of_length_le (by rw [HL.out]; omega), List.take_of_length_le (by omega)] at h1
          exact h1
        go_wp2
        go_ret
        exact ⟨by rw [HN.out]; rfl, hbw⟩
  · have hlI : ¬ ((xs.length : Int) = (ys.length : Int)) := by omega
    have HN : Hid (decide (xs = ys) = false) := by
      show _ = _
      rw [decide_eq_false_iff_not]
      exact fun e => hl (by rw [e])
    go_wp2
    go_ret
    exact ⟨by rw [HN.out]; rfl, Below.refl _ _⟩

set_option maxHeartbeats 4000000 in
theorem Is_any (aN aE : Option Addr) (nn cN ne cE : Nat) (a : Int) (w : World) (hnn : nn ≤ 1000000) :
    Calls Try.prog 41 #[.agg #[.slice aN nn cN, .slice aE ne cE], .int .i64 a] w fun e w' => e = .returned (.bool (okIn nn a)) ∧ Below w.heap.size w w' := by
  go_enter Try.func41, Try.ntmps41
  by_cases h0 : 0 ≤ a
  · by_cases h1 : a < (nn : Int)
    · have HQ : Hid (okIn nn a = true) := by show _ = _; simp [okIn, h0, h1]
      go_wp2
      go_ret
      exact ⟨by rw [HQ.out]; rfl, by go_grown⟩
    · have HQ : Hid (okIn nn a = false) := by show _ = _; simp [okIn, h1]
      go_wp2
      go_ret
      exact ⟨by rw [HQ.out]; rfl, by go_grown⟩
  · have HQ : Hid (okIn nn a = false) := by show _ = _; simp [okIn, h0]
    go_wp2
    go_ret
    exact ⟨by rw [HQ.out]; rfl, by go_grown⟩

set_option maxRecDepth 20000 in
set_option maxHeartbeats 8000000 in
theorem Node_bad (g : Nat) (d : Gd) (s : ByteArray) (v : Value) (zs : List Int) (w : World) (h : GW w g d) (hv : AI w v zs) (hz : zs.all (okIn d.t.nn) = false) (hnn : d.t.nn ≤ 10000) :
    Calls Try.prog 28 #[.pointer (some ⟨g, 0, none⟩), .string s, v] w fun e w' => e = .returned (.tuple #[.int .i64 0, .int .i64 50]) ∧ Below w.heap.size w w' := by
  obtain ⟨ao, cap, rfl⟩ := hv.shape
  obtain ⟨c0, -, -, -, -, -, -, -, -, -⟩ := h.cw.cells
  obtain ⟨an, cn, hvn, -, -, -, -⟩ := h.nodes.shape
  rw [hvn] at c0
  have hgl := h.cw.lt
  have HV : Hid _ := hv
  have HZ : Hid (zs.all (okIn d.t.nn) = false) := hz
  clear h hvn hv hz
  go_enter Try.func28, Try.ntmps28
  go_wp2_with fail
  refine (isNode_any g an d.t.nn cn _ zs false w c0 (by omega) HV.out HZ.out).mono ?_
  rintro e w1 ⟨rfl, hb1⟩
  go_wp2
  refine bodyPost_ret (v := .tuple #[.int .i64 0, .int .i64 50]) (by simp [results, Try.results28, go_sem]) rfl ?_
  exact ⟨rfl, hb1⟩

set_option maxRecDepth 20000 in
set_option maxHeartbeats 8000000 in
theorem Equal_bad (g : Nat) (d : Gd) (a b : Int) (w : World) (h : GW w g d) (hz : (okIn d.t.nn a && okIn d.t.nn b) = false) (hnn : d.t.nn ≤ 10000) :
    Calls Try.prog 30 #[.pointer (some ⟨g, 0, none⟩), .int .i64 a, .int .i64 b] w fun e w' => e = .returned (.tuple #[.int .i64 0, .int .i64 50]) ∧ Below w.heap.size w w' := by
  obtain ⟨c0, -, -, -, -, -, -, -, -, -⟩ := h.cw.cells
  obtain ⟨an, cn, hvn, -, -, -, -⟩ := h.nodes.shape
  rw [hvn] at c0
  have hgl := h.cw.lt
  have kb : (w.alloc (.cells #[.int .i64 a, .int .i64 b] 3 (0, 0))).heap[w.heap.size]? = _ := heap_alloc_new w _
  have hb0 : Below w.heap.size w (w.alloc (.cells #[.int .i64 a, .int .i64 b] 3 (0, 0))) := (Below.refl _ _).alloc (Nat.le_refl _) _
  have hai := ai_two kb 2
  have c0' := (hb0.cell (p := ⟨g, 0, none⟩) hgl).trans c0
  have HZ : Hid (([a, b]).all (okIn d.t.nn) = false) := by show _ = _; simpa using hz
  clear h hvn c0 kb hz
  go_enter Try.func30, Try.ntmps30
  go_wp2_with fail
  refine (isNode_any g an d.t.nn cn _ _ false _ c0' (by omega) hai HZ.out).mono ?_
  rintro e w1 ⟨rfl, hb1⟩
  replace hb1 : Below w.heap.size w w1 := hb0.trans (hb1.mono hb0.size)
  clear hb0 hai c0'
  go_wp2
  refine bodyPost_ret (v := .tuple #[.int .i64 0, .int .i64 50]) (by simp [results, Try.results30, go_sem]) rfl ?_
  exact ⟨rfl, hb1⟩
end Euf
end Go.Proofs.Ytmnpefiaelpkfac
