/- Contracts of Len, Equations and Find, and of the calls that are refused; they prove no statement of the seat. -/
import Derived.Test.YtlonnhnfmcndfacJoin7Plays
import Derived.Test.YtlonnhnfmcndfacJoin8Plays
import Derived.Test.YtlonnhnfmcndfacEufXpJPlays
import Derived.Test.YtlonnhnfmcndfacJoin2Plays
namespace Go.Proofs.Ytlonnhnfmcndfac
open Go.RowKit
set_option linter.unusedVariables false
namespace Euf

set_option maxHeartbeats 4000000 in
theorem Len_any (g : Nat) (d : Gd) (w : World) (h : GW w g d) (hnn : d.t.nn ≤ 10000) :
    Calls Try.prog 17 #[.pointer (some ⟨g, 0, none⟩)] w fun e w' => e = .returned (.int .i64 (d.t.nn : Nat)) ∧ Below w.heap.size w w' := by
  obtain ⟨c0, -, -, -, -, -, -, -, -, -⟩ := h.cw.cells
  obtain ⟨an, cn, hvn, -, -, -, -⟩ := h.nodes.shape
  rw [hvn] at c0
  have hgl := h.cw.lt
  clear h hvn
  go_enter Try.func17, Try.ntmps17
  go_wp2
  go_ret
  exact ⟨rfl, Below.refl _ _⟩
set_option maxHeartbeats 4000000 in
theorem Equations_any (g : Nat) (d : Gd) (w : World) (h : GW w g d) :
    Calls Try.prog 24 #[.pointer (some ⟨g, 0, none⟩)] w fun e w' => e = .returned (.int .i64 (d.f.ne : Nat)) ∧ Below w.heap.size w w' := by
  obtain ⟨-, c1, -, -, -, -, -, -, -, -⟩ := h.cw.cells
  obtain ⟨an, cn, hvn, -, -, -, -⟩ := h.cw.eqs.shape
  rw [hvn] at c1
  have hgl := h.cw.lt
  clear h hvn
  go_enter Try.func24, Try.ntmps24
  go_wp2
  go_ret
  exact ⟨rfl, Below.refl _ _⟩
/-- One int that lies by itself. -/
theorem ai_one {w : World} {b : Nat} {x : Int} (h : w.heap[b]? = some (.cells #[.int .i64 x] 3 (0, 0))) (cap : Nat) : AI w (.slice (some ⟨b, 0, none⟩) 1 cap) [x] := by
  refine ⟨_, cap, rfl, by simp, Or.inr ⟨b, 0, rfl, (Array.getElem?_eq_some_iff.1 h).1, fun i hi => ?_⟩⟩
  simp only [List.length_cons, List.length_nil] at hi
  obtain rfl : i = 0 := by omega
  exact cell_of_row _ b 0 _ 3 (0, 0) h

set_option maxRecDepth 20000 in
set_option maxHeartbeats 8000000 in
theorem Find_any (g : Nat) (d : Gd) (a : Nat) (w : World) (h : GW w g d) (hk : GSem d) (ha : a < d.t.nn) (hnn : d.t.nn ≤ 10000) (hne : d.f.ne ≤ 10000) :
    Calls Try.prog 12 #[.pointer (some ⟨g, 0, none⟩), .int .i64 (a : Nat)] w fun e w' => ∃ (y' : Ly) (s' : Sx) (r : Nat), e = .returned (.tuple #[.int .i64 (r : Nat), .int .i64 0]) ∧ Least d.t.nn d.t.N (EqOf d.f) a r ∧ Run d.f d.m d.s d.f.ne s' ∧ s'.ns = d.f.np ∧ GW w' g (dR d d.f.ne y' s') ∧ Mv (Fg g d) w w' ∧ (∀ c, Fg g (dR d d.f.ne y' s') c → Fg g d c ∨ w.heap.size ≤ c) := by
  have HGW : Hid (GW w g d) := h
  have HK : Hid (GSem d) := hk
  have HA : Hid (([(a : Int)]).all (okIn d.t.nn) = true) := by show _ = _; simp [okIn]; omega
  have HWA : Hid (a < d.f.nw ∧ d.f.W a < d.f.np ∧ a < d.t.nn) := ⟨by rw [hk.ok.t.nw]; exact ha, (hk.ok.t.whole a ha).1, ha⟩
  obtain ⟨c0, -, -, -, -, -, -, -, -, -⟩ := h.cw.cells
  obtain ⟨an, cn, hvn, -, -, -, -⟩ := h.nodes.shape
  rw [hvn] at c0
  have hgl := h.cw.lt
  have kb : (w.alloc (.cells #[.int .i64 (a : Nat)] 3 (0, 0))).heap[w.heap.size]? = _ := heap_alloc_new w _
  have hb0 : Below w.heap.size w (w.alloc (.cells #[.int .i64 (a : Nat)] 3 (0, 0))) := (Below.refl _ _).alloc (Nat.le_refl _) _
  have hai := ai_one kb 1
  have c0' := (hb0.cell (p := ⟨g, 0, none⟩) hgl).trans c0
  clear h hvn c0 kb ha hk
  go_enter Try.func12, Try.ntmps12
  go_wp2_with fail
  refine (isNode_any g an d.t.nn cn _ _ true _ c0' (by omega) hai HA.out).mono ?_
  rintro e w2 ⟨rfl, hb1⟩
  replace hb1 : Below w.heap.size w w2 := hb0.trans (hb1.mono hb0.size)
  have HB1 : Hid (Below w.heap.size w w2) := hb1
  have HG2 : Hid (GW w2 g d) := HGW.out.below hb1
  clear hb1 hb0 hai c0' HA hgl
  go_wp2_with fail
  refine (settle_any g d.x d.f d.m d.y d.s w2 HG2.out.cw HK.out.ok.f HK.out.ok.cl HK.out.ok.inv HK.out.ok.m (by omega)).mono ?_
  rintro e w3 ⟨rfl, y', s', hR, hns, hC, hM, hF⟩
  obtain ⟨k1, k2, k3⟩ := HG2.out.ran hC hM hF
  have HSM : Hid (GSem (dR d d.f.ne y' s')) := dR_sem HK.out hR
  have HR : Hid _ := And.intro hR (And.intro hns (And.intro k1 (And.intro k2 k3)))
  obtain ⟨r, HRE⟩ : ∃ r : Nat, Hid ((s'.S (s'.S (d.f.W a)).cls).least = (r : Int) ∧ Least d.t.nn d.t.N (EqOf d.f) a r) := find_least (f := d.f) (t := d.t) (s := s') HSM.out.ok.t HSM.out.ok.f HSM.out.sem HSM.out.ok.inv hns HWA.out.2.2
  clear hR hM hF k1 k2 k3
  have HNS : Hid (s'.ns = d.f.np) := hns
  have hwl : d.f.W a < s'.ns := by rw [hns]; exact HWA.out.2.1
  have hcl : (s'.S (d.f.W a)).cls < s'.ns := HSM.out.ok.inv.lt _ hwl
  obtain ⟨gs, cap, hv, hc1, hc2⟩ := hC.spotsAt hcl
  obtain ⟨-, -, -, -, -, -, -, c7, -, -⟩ := hC.cells
  rw [hv] at c7
  obtain ⟨-, -, -, -, -, f5, -⟩ := hC.spot hv hcl
  rw [HRE.out.1] at f5
  have hgl3 := hC.lt
  have hgs3 := hC.ltS hv
  obtain ⟨cl, hcle⟩ : ∃ cl, cl = (s'.S (d.f.W a)).cls := ⟨_, rfl⟩
  have HCL : Hid (cl = (s'.S (d.f.W a)).cls) := hcle
  rw [← hcle] at f5 hcl
  have hclI : (cl : Int) < (s'.ns : Int) := by omega
  have HC3 : Hid (CW w3 g d.x d.f d.f.ne y' s') := hC
  have HWL : Hid (d.f.W a < s'.ns) := hwl
  have HQ : Hid (∀ w9, Below w3.heap.size w3 w9 → Calls Try.prog 29 #[.pointer (some ⟨g, 0, none⟩), .int .i64 (a : Nat)] w9 fun e w' => e = .returned (.int .i64 (cl : Nat)) ∧ Below w9.heap.size w9 w') := by
    intro w9 h9
    rw [HCL.out]
    exact classOf_any g d.x d.f d.f.ne y' s' a w9 (HC3.out.below h9) HWA.out.1 HWL.out
  clear hns hC hv hcle hwl
  have HMEM : Hid (∀ w9, Below w3.heap.size w3 w9 → w9.cell? ⟨g, 7, none⟩ = some (.slice (some ⟨gs, 0, none⟩) s'.ns cap) ∧ w9.cell? ⟨gs, cl * 7 + 5, none⟩ = some (.int .i64 (r : Nat))) := fun w9 h9 => ⟨(h9.cell (p := ⟨g, 7, none⟩) hgl3).trans c7, (h9.cell (p := ⟨gs, cl * 7 + 5, none⟩) hgs3).trans f5⟩
  go_wp2_with fail
  clear c7 f5
  refine wp_region_E (by kernel_rfl) [some 13, some 14, some 15, some 16, some 17, some 18, some 19, some 20, some 21, some 22, some 4, some 5] [none, none, none, none, some 4, some 5, none, none, none, none, none, none, none, some 13, some 14, some 15, some 16, some 17, some 18, some 19, some 20, some 21, some 22] (fun U => by kernel_rfl) [fun u => u = (.pointer (some ⟨g, 0, none⟩)), fun u => u = (.pointer (some ⟨g, 0, none⟩)), fun u => u = (.pointer (some ⟨g, 7, none⟩)), fun u => u = (.slice (some ⟨gs, 0, none⟩) s'.ns cap), fun u => u = (.pointer (some ⟨g, 0, none⟩)), fun u => u = (.int .i64 (a : Nat)), fun u => u = (.int .i64 (cl : Nat)), fun u => u = (.pointer (some ⟨gs, cl * 7, none⟩)), fun u => u = (.pointer (some ⟨gs, cl * 7 + 5, none⟩)), fun u => u = (.int .i64 (r : Nat)), fun u => u = (.int .i64 (r : Nat)), fun u => u = (.int .i64 0)] (fun L U wr => Below w3.heap.size w3 wr) (by kernel_rfl) (by decide) (by kernel_rfl) (by kernel_rfl) ?_ ?_ ?_
  · exact fun U => (Below.refl _ _).drew
  · refine StepsE.run rfl ?_ ?_
    · intro L U wr hC hP hlk hcl haf A K hFm hK
      simp [Aft, Region.binds] at haf
      have e0 : A.tmps[0]? = some (.pointer (some ⟨g, 0, none⟩)) := (hFm.old 0 (by decide)).trans (by kernel_rfl)
      have HC : Hid _ := hC
      clear hC
      refine ⟨?_⟩
      go_simp
      exact hK _ _ rfl HC.out
    refine StepsE.run rfl ?_ ?_
    · intro L U wr hC hP hlk hcl haf A K hFm hK
      simp [Aft, Region.binds] at haf
      have g0 : U 13 = (.pointer (some ⟨g, 0, none⟩)) := hP 0 13 (by simp [haf]) rfl
      have e13 : A.tmps[13]? = some (.pointer (some ⟨g, 0, none⟩)) := hFm.is 0 13 rfl g0
      have HC : Hid _ := hC
      clear hC
      refine ⟨?_⟩
      go_simp
      exact hK _ _ rfl HC.out
    refine StepsE.run rfl ?_ ?_
    · intro L U wr hC hP hlk hcl haf A K hFm hK
      simp [Aft, Region.binds] at haf
      have g1 : U 14 = (.pointer (some ⟨g, 0, none⟩)) := hP 1 14 (by simp [haf]) rfl
      have e14 : A.tmps[14]? = some (.pointer (some ⟨g, 0, none⟩)) := hFm.is 1 14 rfl g1
      have HC : Hid _ := hC
      clear hC
      refine ⟨?_⟩
      go_simp
      exact hK _ _ rfl HC.out
    refine StepsE.run rfl ?_ ?_
    · intro L U wr hC hP hlk hcl haf A K hFm hK
      simp [Aft, Region.binds] at haf
      have g2 : U 15 = (.pointer (some ⟨g, 7, none⟩)) := hP 2 15 (by simp [haf]) rfl
      have e15 : A.tmps[15]? = some (.pointer (some ⟨g, 7, none⟩)) := hFm.is 2 15 rfl g2
      obtain ⟨m1, m2⟩ := HMEM.out wr hC
      have HC : Hid _ := hC
      clear hC
      refine ⟨?_⟩
      go_simp
      exact hK _ _ rfl HC.out
    refine StepsE.run rfl ?_ ?_
    · intro L U wr hC hP hlk hcl haf A K hFm hK
      simp [Aft, Region.binds] at haf
      have e0 : A.tmps[0]? = some (.pointer (some ⟨g, 0, none⟩)) := (hFm.old 0 (by decide)).trans (by kernel_rfl)
      have HC : Hid _ := hC
      clear hC
      refine ⟨?_⟩
      go_simp
      exact hK _ _ rfl HC.out
    refine StepsE.run rfl ?_ ?_
    · intro L U wr hC hP hlk hcl haf A K hFm hK
      simp [Aft, Region.binds] at haf
      have e1 : A.tmps[1]? = some (.int .i64 (a : Nat)) := (hFm.old 1 (by decide)).trans (by kernel_rfl)
      have HC : Hid _ := hC
      clear hC
      refine ⟨?_⟩
      go_simp
      exact hK _ _ rfl HC.out
    refine StepsE.run rfl ?_ ?_
    · intro L U wr hC hP hlk hcl haf A K hFm hK
      simp [Aft, Region.binds] at haf
      have g4 : U 17 = (.pointer (some ⟨g, 0, none⟩)) := hP 4 17 (by simp [haf]) rfl
      have e17 : A.tmps[17]? = some (.pointer (some ⟨g, 0, none⟩)) := hFm.is 4 17 rfl g4
      have g5 : U 18 = (.int .i64 (a : Nat)) := hP 5 18 (by simp [haf]) rfl
      have e18 : A.tmps[18]? = some (.int .i64 (a : Nat)) := hFm.is 5 18 rfl g5
      refine ⟨?_⟩
      have HB9 : Hid _ := hC
      clear hC
      go_simp
      refine (HQ.out wr HB9.out).mono ?_
      rintro e w1 ⟨rfl, hb9⟩
      go_simp
      exact hK _ _ (rfl) (HB9.out.trans (hb9.mono HB9.out.size))
    refine StepsE.run rfl ?_ ?_
    · intro L U wr hC hP hlk hcl haf A K hFm hK
      simp [Aft, Region.binds] at haf
      have g3 : U 16 = (.slice (some ⟨gs, 0, none⟩) s'.ns cap) := hP 3 16 (by simp [haf]) rfl
      have e16 : A.tmps[16]? = some (.slice (some ⟨gs, 0, none⟩) s'.ns cap) := hFm.is 3 16 rfl g3
      have g6 : U 19 = (.int .i64 (cl : Nat)) := hP 6 19 (by simp [haf]) rfl
      have e19 : A.tmps[19]? = some (.int .i64 (cl : Nat)) := hFm.is 6 19 rfl g6
      have HC : Hid _ := hC
      clear hC
      refine ⟨?_⟩
      go_simp
      exact hK _ _ rfl HC.out
    refine StepsE.run rfl ?_ ?_
    · intro L U wr hC hP hlk hcl haf A K hFm hK
      simp [Aft, Region.binds] at haf
      have g7 : U 20 = (.pointer (some ⟨gs, cl * 7, none⟩)) := hP 7 20 (by simp [haf]) rfl
      have e20 : A.tmps[20]? = some (.pointer (some ⟨gs, cl * 7, none⟩)) := hFm.is 7 20 rfl g7
      have HC : Hid _ := hC
      clear hC
      refine ⟨?_⟩
      go_simp
      exact hK _ _ rfl HC.out
    refine StepsE.run rfl ?_ ?_
    · intro L U wr hC hP hlk hcl haf A K hFm hK
      simp [Aft, Region.binds] at haf
      have g8 : U 21 = (.pointer (some ⟨gs, cl * 7 + 5, none⟩)) := hP 8 21 (by simp [haf]) rfl
      have e21 : A.tmps[21]? = some (.pointer (some ⟨gs, cl * 7 + 5, none⟩)) := hFm.is 8 21 rfl g8
      obtain ⟨m1, m2⟩ := HMEM.out wr hC
      have HC : Hid _ := hC
      clear hC
      refine ⟨?_⟩
      go_simp
      exact hK _ _ rfl HC.out
    refine StepsE.run rfl ?_ ?_
    · intro L U wr hC hP hlk hcl haf A K hFm hK
      simp [Aft, Region.binds] at haf
      have g9 : U 22 = (.int .i64 (r : Nat)) := hP 9 22 (by simp [haf]) rfl
      have e22 : A.tmps[22]? = some (.int .i64 (r : Nat)) := hFm.is 9 22 rfl g9
      have HC : Hid _ := hC
      clear hC
      refine ⟨?_⟩
      go_simp
      exact hK _ _ rfl HC.out
    refine StepsE.run rfl ?_ StepsE.nil
    · intro L U wr hC hP hlk hcl haf A K hFm hK
      simp [Aft, Region.binds] at haf
      have HC : Hid _ := hC
      clear hC
      refine ⟨?_⟩
      go_simp
      exact hK _ _ rfl HC.out
  intro L U4 V4 hall hC hP
  have e4 : U4 4 = .int .i64 (r : Nat) := hP 10 4 rfl
  have e5 : U4 5 = .int .i64 0 := hP 11 5 rfl
  simp only [setM_some, setM_none, setM_nil]
  rw [e4, e5]
  have HC4 : Hid (Below w3.heap.size w3 V4) := hC
  clear hC hP hall e4 e5 HQ HMEM
  go_wp2
  refine bodyPost_ret (v := .tuple #[.int .i64 (r : Nat), .int .i64 0]) (by simp [results, Try.results12, go_sem]) rfl ?_
  obtain ⟨k1, k2, k3, k4, k5⟩ := HR.out
  refine ⟨y', s', r, rfl, HRE.out.2, k1, k2, k3.below HC4.out, ?_, fun c hc => ?_⟩
  · exact ((Mv.below (F := Fg g d) HB1.out).trans k4 (fun b hb => Or.inl hb)).trans (Mv.below (F := Fg g d) HC4.out) (fun b hb => Or.inl hb)
  · rcases k5 c hc with h9 | h9
    · exact Or.inl h9
    · exact Or.inr (Nat.le_trans HB1.out.size h9)
end Euf
end Go.Proofs.Ytlonnhnfmcndfac
