/- The contract of Same, what holds of the graph; it proves no statement of the seat. -/
import Derived.Test.YtlonnhnfmcndfadEufVJGrows
namespace Go.Proofs.Ytlonnhnfmcndfad
open Go.RowKit
set_option linter.unusedVariables false
namespace Euf
theorem natEq (a b : Nat) : ((a : Int) == (b : Int)) = decide (a = b) := by
  rw [Bool.eq_iff_iff]; simp; omega
/-- What holds of the graph between calls. -/
structure GOk (d : Gd) : Prop where
  t : TOk d.f d.t none
  f : FOk d.f
  cl : d.s.cl = []
  inv : Inv d.f.np d.f.P d.s.ns d.s.S d.s.sg [] []
  m : d.m ≤ d.f.ne

set_option maxRecDepth 20000 in
set_option maxHeartbeats 8000000 in
theorem Same_any (g : Nat) (d : Gd) (a b : Nat) (w : World) (h : GW w g d) (hk : GOk d) (ha : a < d.t.nn) (hb : b < d.t.nn) (hnn : d.t.nn ≤ 10000) (hne : d.f.ne ≤ 10000) :
    Calls Try.prog 16 #[.pointer (some ⟨g, 0, none⟩), .int .i64 (a : Nat), .int .i64 (b : Nat)] w fun e w' => ∃ (y' : Ly) (s' : Sx), e = .returned (.tuple #[.bool (decide ((s'.S (d.f.W a)).cls = (s'.S (d.f.W b)).cls)), .int .i64 0]) ∧ Run d.f d.m d.s d.f.ne s' ∧ s'.ns = d.f.np ∧ GW w' g (dR d d.f.ne y' s') ∧ Mv (Fg g d) w w' ∧ (∀ c, Fg g (dR d d.f.ne y' s') c → Fg g d c ∨ w.heap.size ≤ c) := by
  have HGW : Hid (GW w g d) := h
  have HK : Hid (GOk d) := hk
  have HAB : Hid (([(a : Int), (b : Int)]).all (okIn d.t.nn) = true) := by show _ = _; simp [okIn]; omega
  have HWAB : Hid (a < d.f.nw ∧ b < d.f.nw ∧ d.f.W a < d.f.np ∧ d.f.W b < d.f.np) := ⟨by rw [hk.t.nw]; exact ha, by rw [hk.t.nw]; exact hb, (hk.t.whole a ha).1, (hk.t.whole b hb).1⟩
  obtain ⟨c0, -, -, -, -, -, -, -, -, -⟩ := h.cw.cells
  obtain ⟨an, cn, hvn, -, -, -, -⟩ := h.nodes.shape
  rw [hvn] at c0
  have hgl := h.cw.lt
  have kb : (w.alloc (.cells #[.int .i64 (a : Nat), .int .i64 (b : Nat)] 3 (0, 0))).heap[w.heap.size]? = _ := heap_alloc_new w _
  have hb0 : Below w.heap.size w (w.alloc (.cells #[.int .i64 (a : Nat), .int .i64 (b : Nat)] 3 (0, 0))) := (Below.refl _ _).alloc (Nat.le_refl _) _
  have hai := ai_two kb 2
  have c0' := (hb0.cell (p := ⟨g, 0, none⟩) hgl).trans c0
  clear h hvn c0 kb ha hb hk
  go_enter Try.func16, Try.ntmps16
  go_wp2_with fail
  refine (isNode_any g an d.t.nn cn _ _ true _ c0' (by omega) hai HAB.out).mono ?_
  rintro e w2 ⟨rfl, hb1⟩
  replace hb1 : Below w.heap.size w w2 := hb0.trans (hb1.mono hb0.size)
  have HB1 : Hid (Below w.heap.size w w2) := hb1
  have HG2 : Hid (GW w2 g d) := HGW.out.below hb1
  clear hb1 hb0 hai c0' HAB hgl
  go_wp2_with fail
  refine (settle_any g d.x d.f d.m d.y d.s w2 HG2.out.cw HK.out.f HK.out.cl HK.out.inv HK.out.m (by omega)).mono ?_
  rintro e w3 ⟨rfl, y', s', hR, hns, hC, hM, hF⟩
  obtain ⟨k1, k2, k3⟩ := HG2.out.ran hC hM hF
  have HR : Hid _ := And.intro hR (And.intro hns (And.intro k1 (And.intro k2 k3)))
  clear hR hM hF k1 k2 k3
  have HNS : Hid (s'.ns = d.f.np) := hns
  clear hns
  go_wp2_with fail
  refine (classOf_any g d.x d.f d.f.ne y' s' a w3 hC HWAB.out.1 (by rw [HNS.out]; exact HWAB.out.2.2.1)).mono ?_
  rintro e w4 ⟨rfl, hb4⟩
  have hC4 := hC.below hb4
  have HB4 : Hid (Below w3.heap.size w3 w4) := hb4
  clear hb4 hC
  go_wp2_with fail
  refine (classOf_any g d.x d.f d.f.ne y' s' b w4 hC4 HWAB.out.2.1 (by rw [HNS.out]; exact HWAB.out.2.2.2)).mono ?_
  rintro e w5 ⟨rfl, hb5⟩
  have HB5 : Hid (Below w3.heap.size w3 w5) := HB4.out.trans (hb5.mono HB4.out.size)
  clear hb5 hC4 HB4
  go_wp2
  refine bodyPost_ret (v := .tuple #[.bool (decide ((s'.S (d.f.W a)).cls = (s'.S (d.f.W b)).cls)), .int .i64 0]) (by simp [results, Try.results16, go_sem, natEq]) rfl ?_
  refine ⟨y', s', rfl, HR.out.1, HR.out.2.1, HR.out.2.2.1.below HB5.out, ?_, fun c hc => ?_⟩
  · exact ((Mv.below (F := Fg g d) HB1.out).trans HR.out.2.2.2.1 (fun b hb => Or.inl hb)).trans (Mv.below (F := Fg g d) HB5.out) (fun b hb => Or.inl hb)
  · rcases HR.out.2.2.2.2 c hc with h9 | h9
    · exact Or.inl h9
    · exact Or.inr (Nat.le_trans HB1.out.size h9)
end Euf
end Go.Proofs.Ytlonnhnfmcndfad
