/- At; no statement of the seat is proved here. -/
import Derived.Test.YtlonnhnfmcndfacEufSfJTerms
import Derived.Test.YtlonnhnfmcndfacJoin4Terms
import Derived.Test.YtlonnhnfmcndfacEufT2JTerms
import Derived.Test.YtlonnhnfmcndfacReg6JTerms
namespace Go.Proofs.Ytlonnhnfmcndfac
open Go.RowKit
set_option linter.unusedVariables false
namespace Euf
set_option maxRecDepth 20000 in
set_option maxHeartbeats 8000000 in
theorem At_bad (g : Nat) (d : Gd) (a : Int) (w : World) (h : GW w g d) (hz : okIn d.t.nn a = false) (hnn : d.t.nn ≤ 10000) :
    Calls Try.prog 14 #[.pointer (some ⟨g, 0, none⟩), .int .i64 a] w fun e w' => e = .returned (.tuple #[.agg #[.string { data := #[] }, .slice none 0 0], .bool false]) ∧ Below w.heap.size w w' := by
  obtain ⟨c0, -, -, -, -, -, -, -, -, -⟩ := h.cw.cells
  obtain ⟨an, cn, hvn, -, -, -, -⟩ := h.nodes.shape
  rw [hvn] at c0
  have hgl := h.cw.lt
  obtain ⟨W0, hW0⟩ : ∃ W0, W0 = w.alloc (.cells #[.string { data := #[] }, .slice none 0 0] 43 (0, 0)) := ⟨_, rfl⟩
  have kb : (W0.alloc (.cells #[.int .i64 a] 3 (0, 0))).heap[W0.heap.size]? = _ := heap_alloc_new W0 _
  have hs0 : W0.heap.size = w.heap.size + 1 := by rw [hW0]; simp
  have hbw : Below w.heap.size w W0 := by rw [hW0]; go_grown
  have hb0 : Below W0.heap.size W0 (W0.alloc (.cells #[.int .i64 a] 3 (0, 0))) := (Below.refl _ _).alloc (Nat.le_refl _) _
  have hai := ai_single kb 1
  have c0' := (hb0.cell (p := ⟨g, 0, none⟩) (by rw [hs0]; show g < _; omega)).trans ((hbw.cell (p := ⟨g, 0, none⟩) hgl).trans c0)
  have k4 : Blk 43 W0 w.heap.size #[.string { data := #[] }, .slice none 0 0] := by rw [hW0]; exact heap_alloc_new w _
  have HZ : Hid (([a]).all (okIn d.t.nn) = false) := by show _ = _; simpa using hz
  have HB0 : Hid (Below W0.heap.size W0 (W0.alloc (.cells #[.int .i64 a] 3 (0, 0))) ∧ Below w.heap.size w W0 ∧ Blk 43 W0 w.heap.size #[.string { data := #[] }, .slice none 0 0]) := ⟨hb0, hbw, k4⟩
  have HAI : Hid (AI (W0.alloc (.cells #[.int .i64 a] 3 (0, 0))) (.slice (some ⟨W0.heap.size, 0, none⟩) 1 1) [a]) := hai
  rw [hs0] at HAI
  clear h hvn c0 kb hz hb0 hbw k4 hai
  go_enter Try.func14, Try.ntmps14
  go_wp2_with fail
  rw [← hW0]
  refine (isNode_any g an d.t.nn cn _ _ false _ c0' (by omega) HAI.out HZ.out).mono ?_
  rintro e w1 ⟨rfl, hb1⟩
  have hB : Below W0.heap.size W0 w1 := HB0.out.1.trans (hb1.mono HB0.out.1.size)
  have k4 := HB0.out.2.2.stay hB
  obtain ⟨r0, r1, f0, f1⟩ := k4.two
  have hl4 := k4.lt
  have HBW : Hid (Below w.heap.size w w1) := HB0.out.2.1.trans (hB.mono HB0.out.2.1.size)
  have k5 : Blk 43 ((w1.setCell ⟨w.heap.size, 0, none⟩ (.string { data := #[] })).setCell ⟨w.heap.size, 1, none⟩ (.slice none 0 0)) w.heap.size #[.string { data := #[] }, .slice none 0 0] := by
    have := (Blk.set k4 0 (.string { data := #[] })).set 1 (.slice none 0 0)
    simpa using this
  obtain ⟨s0, s1, -, -⟩ := k5.two
  clear hb1 hB k4 k5 HAI c0' hW0 hs0
  go_wp2
  refine bodyPost_ret (v := .tuple #[.agg #[.string { data := #[] }, .slice none 0 0], .bool false]) (by simp [results, Try.results14, go_sem, s0, s1]) rfl ?_
  exact ⟨rfl, below_store2 HBW.out (Nat.le_refl _) _ _⟩

set_option maxRecDepth 20000 in
set_option maxHeartbeats 16000000 in
theorem At_any (g : Nat) (d : Gd) (n : Nat) (w : World) (h : GW w g d) (hn : n < d.t.nn) (hnn : d.t.nn ≤ 10000) (hal : (d.t.N n).2.length ≤ 10000) :
    Calls Try.prog 14 #[.pointer (some ⟨g, 0, none⟩), .int .i64 (n : Nat)] w fun e w' => ∃ b9 : Nat, e = .returned (.tuple #[.agg #[.string (d.t.N n).1, .slice (some ⟨b9, 0, none⟩) (d.t.N n).2.length (d.t.N n).2.length], .bool true]) ∧ OL 1 3 w' (.slice (some ⟨b9, 0, none⟩) (d.t.N n).2.length (d.t.N n).2.length) (d.t.N n).2.length (natC (d.t.N n).2) ∧ w.heap.size ≤ b9 ∧ Below w.heap.size w w' := by
  obtain ⟨c0, -, -, -, -, -, -, -, -, -⟩ := h.cw.cells
  obtain ⟨bN, cN, hvn, -, -⟩ := h.nodes.open n hn
  have hnd := h.nodes
  rw [hvn] at c0 hnd
  have n0 := hnd.cell (i := n) hn (j := 0) (by omega)
  have n1 := hnd.cell (i := n) hn (j := 1) (by omega)
  simp only [Nat.add_zero, List.getElem?_cons_zero, List.getElem?_cons_succ] at n0 n1
  have hbN : bN < w.heap.size := hnd.lt rfl
  obtain ⟨aZ, cZ, hag, -, -, -, -⟩ := (h.args n hn).shape
  rw [hag] at n1
  have hAG := h.args n hn
  rw [hag] at hAG
  have hgl := h.cw.lt
  obtain ⟨W0, hW0⟩ : ∃ W0, W0 = w.alloc (.cells #[.string { data := #[] }, .slice none 0 0] 43 (0, 0)) := ⟨_, rfl⟩
  have kb : (W0.alloc (.cells #[.int .i64 (n : Nat)] 3 (0, 0))).heap[W0.heap.size]? = _ := heap_alloc_new W0 _
  have hs0 : W0.heap.size = w.heap.size + 1 := by rw [hW0]; simp
  have hbw : Below w.heap.size w W0 := by rw [hW0]; go_grown
  have hb0 : Below W0.heap.size W0 (W0.alloc (.cells #[.int .i64 (n : Nat)] 3 (0, 0))) := (Below.refl _ _).alloc (Nat.le_refl _) _
  have hai := ai_single kb 1
  have c0' := (hb0.cell (p := ⟨g, 0, none⟩) (by rw [hs0]; show g < _; omega)).trans ((hbw.cell (p := ⟨g, 0, none⟩) hgl).trans c0)
  have k4 : Blk 43 W0 w.heap.size #[.string { data := #[] }, .slice none 0 0] := by rw [hW0]; exact heap_alloc_new w _
  have HZ : Hid (([(n : Int)]).all (okIn d.t.nn) = true) := by show _ = _; simp [okIn]; omega
  have HB0 : Hid (Below W0.heap.size W0 (W0.alloc (.cells #[.int .i64 (n : Nat)] 3 (0, 0))) ∧ Below w.heap.size w W0 ∧ Blk 43 W0 w.heap.size #[.string { data := #[] }, .slice none 0 0]) := ⟨hb0, hbw, k4⟩
  have HAI : Hid (AI (W0.alloc (.cells #[.int .i64 (n : Nat)] 3 (0, 0))) (.slice (some ⟨W0.heap.size, 0, none⟩) 1 1) [(n : Int)]) := hai
  have HAG : Hid (OL 1 3 w (.slice aZ (d.t.N n).2.length cZ) (d.t.N n).2.length (natC (d.t.N n).2)) := hAG
  rw [hs0] at HAI
  have HFC : Hid (w.cell? ⟨g, 0, none⟩ = some (.slice (some ⟨bN, 0, none⟩) d.t.nn cN) ∧ w.cell? ⟨bN, n * 2, none⟩ = some (.string (d.t.N n).1) ∧ w.cell? ⟨bN, n * 2 + 1, none⟩ = some (.slice aZ (d.t.N n).2.length cZ) ∧ g < w.heap.size ∧ bN < w.heap.size) := ⟨c0, n0, n1, hgl, hbN⟩
  clear h hvn c0 kb hb0 hbw k4 hai n0 n1 hag hAG hnd hbN
  generalize (d.t.N n).1 = fk at HFC ⊢
  generalize hlz : (d.t.N n).2 = ln at HFC HAG hal ⊢
  clear hlz
  obtain ⟨lz, hlz⟩ : ∃ lz, lz = ln.length := ⟨_, rfl⟩
  have HLZ : Hid (lz = ln.length) := hlz
  rw [← hlz] at HFC HAG hal ⊢
  clear hlz
  go_enter Try.func14, Try.ntmps14
  go_wp2_with fail
  rw [← hW0]
  refine (isNode_any g _ d.t.nn cN _ _ true _ c0' (by omega) HAI.out HZ.out).mono ?_
  rintro e W ⟨rfl, hb1⟩
  have hB : Below W0.heap.size W0 W := HB0.out.1.trans (hb1.mono HB0.out.1.size)
  have k4 := HB0.out.2.2.stay hB
  obtain ⟨b4, hb4⟩ : ∃ b4, b4 = w.heap.size := ⟨_, rfl⟩
  rw [← hb4] at k4 ⊢
  have hBW : Below w.heap.size w W := HB0.out.2.1.trans (hB.mono HB0.out.2.1.size)
  have HGP : Hid True := trivial
  have HGB : Hid (g < W.heap.size) := Nat.lt_of_lt_of_le HFC.out.2.2.2.1 hBW.size
  have HNB : Hid (bN < W.heap.size) := Nat.lt_of_lt_of_le HFC.out.2.2.2.2 hBW.size
  have HMG : Hid (W.cell? ⟨g, 0, none⟩ = some (.slice (some ⟨bN, 0, none⟩) d.t.nn cN)) := (hBW.cell (p := ⟨g, 0, none⟩) HFC.out.2.2.2.1).trans HFC.out.1
  have HMF : Hid (W.cell? ⟨bN, n * 2, none⟩ = some (.string fk)) := (hBW.cell (p := ⟨bN, n * 2, none⟩) HFC.out.2.2.2.2).trans HFC.out.2.1
  have HMA : Hid (W.cell? ⟨bN, n * 2 + 1, none⟩ = some (.slice aZ lz cZ)) := (hBW.cell (p := ⟨bN, n * 2 + 1, none⟩) HFC.out.2.2.2.2).trans HFC.out.2.2.1
  have HCP : Hid (∀ wr, Below W.heap.size W wr → Calls Try.prog 30 #[.slice aZ lz cZ] wr fun e w9 => ∃ b9 : Nat, e = .returned (.slice (some ⟨b9, 0, none⟩) lz lz) ∧ OL 1 3 w9 (.slice (some ⟨b9, 0, none⟩) lz lz) lz (natC ln) ∧ W.heap.size ≤ b9 ∧ Below wr.heap.size wr w9) := by
    intro wr hb
    have hb' := hBW.trans (hb.mono hBW.size)
    have hol := HAG.out.stay (fun b hb9 => hb'.block b (HAG.out.lt hb9))
    refine (copied_e aZ lz cZ ln wr HLZ.out.symm hal (by have h9 := hol; rw [HLZ.out] at h9; exact h9.seg)).mono ?_
    rintro e w9 ⟨rfl, k1, k2⟩
    exact ⟨wr.heap.size, rfl, k1, hb.size, k2⟩
  have HFR : Hid (∀ wr, Below W.heap.size W wr → wr.cell? ⟨b4, 0, none⟩ = some (.string { data := #[] }) ∧ wr.cell? ⟨b4, 1, none⟩ = some (.slice none 0 0) ∧ wr.frozen? ⟨b4, 0, none⟩ = false ∧ wr.frozen? ⟨b4, 1, none⟩ = false ∧ b4 < wr.heap.size) := fun wr hb => by have b2 := k4.stay hb; exact ⟨b2.two.1, b2.two.2.1, b2.two.2.2.1, b2.two.2.2.2, b2.lt⟩
  obtain ⟨E5, hE5⟩ : ∃ E5 : World → Prop, E5 = fun wr => ∃ b9 : Nat, wr.cell? ⟨b4, 0, none⟩ = some (.string fk) ∧ wr.cell? ⟨b4, 1, none⟩ = some (.slice (some ⟨b9, 0, none⟩) lz lz) ∧ OL 1 3 wr (.slice (some ⟨b9, 0, none⟩) lz lz) lz (natC ln) ∧ w.heap.size ≤ b9 ∧ Below w.heap.size w wr := ⟨_, rfl⟩
  have HST : Hid (∀ (wr : World) (b9 : Nat), Below W.heap.size W wr → OL 1 3 wr (.slice (some ⟨b9, 0, none⟩) lz lz) lz (natC ln) → W.heap.size ≤ b9 → E5 ((wr.setCell ⟨b4, 0, none⟩ (.string fk)).setCell ⟨b4, 1, none⟩ (.slice (some ⟨b9, 0, none⟩) lz lz))) := by
    intro wr b9 hb hol hsz
    rw [hE5]
    have b2 := k4.stay hb
    have k5 : Blk 43 ((wr.setCell ⟨b4, 0, none⟩ (.string fk)).setCell ⟨b4, 1, none⟩ (.slice (some ⟨b9, 0, none⟩) lz lz)) b4 #[.string fk, .slice (some ⟨b9, 0, none⟩) lz lz] := by
      have := (Blk.set b2 0 (.string fk)).set 1 (.slice (some ⟨b9, 0, none⟩) lz lz)
      simpa using this
    refine ⟨b9, k5.two.1, k5.two.2.1, hol.stay (fun b hb9 => ?_), Nat.le_trans hBW.size hsz, below_store2 (hBW.trans (hb.mono hBW.size)) (by omega) _ _⟩
    have hne : b ≠ b4 := fun e => hol.neB b2 (by decide) (by rw [hb9, e])
    rw [heap_setCell_other _ ⟨b4, 1, none⟩ b _ hne, heap_setCell_other _ ⟨b4, 0, none⟩ b _ hne]
  have hnI : (n : Int) < (d.t.nn : Int) := by omega
  clear hb1 hB k4 HAI c0' hW0 hs0 hgl hBW HB0 HFC HAG hb4
  go_wp2
  refine wp_region_E (by kernel_rfl) [some 12, some 13, some 14, some 15, some 16, some 17, some 18, some 19, some 20, some 21, some 22, some 23, some 24, some 25, some 26, some 27, some 28, some 29, none, some 5] [none, none, none, none, none, some 5, none, none, none, none, none, none, some 12, some 13, some 14, some 15, some 16, some 17, some 18, some 19, some 20, some 21, some 22, some 23, some 24, some 25, some 26, some 27, some 28, some 29] (fun U => by kernel_rfl) [fun u => u = (.pointer (some ⟨g, 0, none⟩)), fun u => u = (.pointer (some ⟨g, 0, none⟩)), fun u => u = (.pointer (some ⟨g, 0, none⟩)), fun u => u = (.slice (some ⟨bN, 0, none⟩) d.t.nn cN), fun u => u = (.int .i64 (n : Nat)), fun u => u = (.pointer (some ⟨bN, n * 2, none⟩)), fun u => u = (.pointer (some ⟨bN, n * 2, none⟩)), fun u => u = (.string fk), fun u => u = (.pointer (some ⟨g, 0, none⟩)), fun u => u = (.pointer (some ⟨g, 0, none⟩)), fun u => u = (.pointer (some ⟨g, 0, none⟩)), fun u => u = (.slice (some ⟨bN, 0, none⟩) d.t.nn cN), fun u => u = (.int .i64 (n : Nat)), fun u => u = (.pointer (some ⟨bN, n * 2, none⟩)), fun u => u = (.pointer (some ⟨bN, n * 2 + 1, none⟩)), fun u => u = (.slice aZ lz cZ), fun _ => True, fun _ => True, fun _ => True, fun u => u = (.bool true)] (fun L U wr => (L 16 = false → Below W.heap.size W wr) ∧ (L 16 = true → L 18 = false → Below W.heap.size W wr ∧ ∃ b9 : Nat, U 28 = .slice (some ⟨b9, 0, none⟩) lz lz ∧ OL 1 3 wr (.slice (some ⟨b9, 0, none⟩) lz lz) lz (natC ln) ∧ W.heap.size ≤ b9 ∧ (L 17 = true → U 29 = .agg #[.string fk, .slice (some ⟨b9, 0, none⟩) lz lz])) ∧ (L 18 = true → (L 0 = true ∧ L 1 = true ∧ L 2 = true ∧ L 3 = true ∧ L 4 = true ∧ L 5 = true ∧ L 6 = true ∧ L 7 = true ∧ L 8 = true ∧ L 9 = true ∧ L 10 = true ∧ L 11 = true ∧ L 12 = true ∧ L 13 = true ∧ L 14 = true ∧ L 15 = true ∧ L 16 = true ∧ L 17 = true) ∧ E5 wr)) (by kernel_rfl) (by decide) (by kernel_rfl) (by kernel_rfl) ?_ ?_ ?_
  · exact fun U => ⟨fun _ => (Below.refl _ _).drew, (fun h => by cases h), (fun h => by cases h)⟩
  · refine StepsE.run rfl ?_ ?_
    · intro L U wr hC hP hlk hcl haf A K hFm hK
      simp [Aft, Region.binds] at haf
      have e0 : A.tmps[0]? = some (.pointer (some ⟨g, 0, none⟩)) := (hFm.old 0 (by decide)).trans (by kernel_rfl)
      have HC : Hid _ := hC
      clear hC
      refine ⟨?_⟩
      go_simp
      refine hK _ _ rfl ?_
      obtain ⟨c0, c1, cS⟩ := HC.out
      refine ⟨fun h => c0 (by simpa using h), fun h1 h2 => by have h9 := c1 (by simpa using h1) (by simpa using h2); simpa [updO, Go.Proofs.Ytlonnhnfmcndfac.upd] using h9, fun h => ?_⟩
      have h9 := cS (by simpa using h)
      exact ⟨by simp [h9.1], h9.2⟩
    refine StepsE.run rfl ?_ ?_
    · intro L U wr hC hP hlk hcl haf A K hFm hK
      simp [Aft, Region.binds] at haf
      have g0 : U 12 = (.pointer (some ⟨g, 0, none⟩)) := hP 0 12 (by simp [haf]) rfl
      have e12 : A.tmps[12]? = some (.pointer (some ⟨g, 0, none⟩)) := hFm.is 0 12 rfl g0
      have hg9 := HGP.out
      have HC : Hid _ := hC
      clear hC
      refine ⟨?_⟩
      go_simp
      refine hK _ _ rfl ?_
      obtain ⟨c0, c1, cS⟩ := HC.out
      refine ⟨fun h => c0 (by simpa using h), fun h1 h2 => by have h9 := c1 (by simpa using h1) (by simpa using h2); simpa [updO, Go.Proofs.Ytlonnhnfmcndfac.upd] using h9, fun h => ?_⟩
      have h9 := cS (by simpa using h)
      exact ⟨by simp [h9.1], h9.2⟩
    refine StepsE.run rfl ?_ ?_
    · intro L U wr hC hP hlk hcl haf A K hFm hK
      simp [Aft, Region.binds] at haf
      have g1 : U 13 = (.pointer (some ⟨g, 0, none⟩)) := hP 1 13 (by simp [haf]) rfl
      have e13 : A.tmps[13]? = some (.pointer (some ⟨g, 0, none⟩)) := hFm.is 1 13 rfl g1
      have hg9 := HGP.out
      have HC : Hid _ := hC
      clear hC
      refine ⟨?_⟩
      go_simp
      refine hK _ _ rfl ?_
      obtain ⟨c0, c1, cS⟩ := HC.out
      refine ⟨fun h => c0 (by simpa using h), fun h1 h2 => by have h9 := c1 (by simpa using h1) (by simpa using h2); simpa [updO, Go.Proofs.Ytlonnhnfmcndfac.upd] using h9, fun h => ?_⟩
      have h9 := cS (by simpa using h)
      exact ⟨by simp [h9.1], h9.2⟩
    refine StepsE.run rfl ?_ ?_
    · intro L U wr hC hP hlk hcl haf A K hFm hK
      simp [Aft, Region.binds] at haf
      have g2 : U 14 = (.pointer (some ⟨g, 0, none⟩)) := hP 2 14 (by simp [haf]) rfl
      have e14 : A.tmps[14]? = some (.pointer (some ⟨g, 0, none⟩)) := hFm.is 2 14 rfl g2
      obtain ⟨c0, c1, cS⟩ := hC
      have hs : L 18 = false := by cases h : L 18 with | false => rfl | true => exact absurd (cS h).1 (by simp [hlk])
      have hb8 : Below W.heap.size W wr := by
        cases h16 : L 16 with
        | false => exact c0 h16
        | true => exact (c1 h16 hs).1
      have m7 := (hb8.cell (p := ⟨g, 0, none⟩) HGB.out).trans HMG.out
      have hC : _ := And.intro c0 (And.intro c1 cS)
      clear c0 c1 cS hs hb8
      have HC : Hid _ := hC
      clear hC
      refine ⟨?_⟩
      go_simp
      refine hK _ _ rfl ?_
      obtain ⟨c0, c1, cS⟩ := HC.out
      refine ⟨fun h => c0 (by simpa using h), fun h1 h2 => by have h9 := c1 (by simpa using h1) (by simpa using h2); simpa [updO, Go.Proofs.Ytlonnhnfmcndfac.upd] using h9, fun h => ?_⟩
      have h9 := cS (by simpa using h)
      exact ⟨by simp [h9.1], h9.2⟩
    refine StepsE.run rfl ?_ ?_
    · intro L U wr hC hP hlk hcl haf A K hFm hK
      simp [Aft, Region.binds] at haf
      have e1 : A.tmps[1]? = some (.int .i64 (n : Nat)) := (hFm.old 1 (by decide)).trans (by kernel_rfl)
      have HC : Hid _ := hC
      clear hC
      refine ⟨?_⟩
      go_simp
      refine hK _ _ rfl ?_
      obtain ⟨c0, c1, cS⟩ := HC.out
      refine ⟨fun h => c0 (by simpa using h), fun h1 h2 => by have h9 := c1 (by simpa using h1) (by simpa using h2); simpa [updO, Go.Proofs.Ytlonnhnfmcndfac.upd] using h9, fun h => ?_⟩
      have h9 := cS (by simpa using h)
      exact ⟨by simp [h9.1], h9.2⟩
    refine StepsE.run rfl ?_ ?_
    · intro L U wr hC hP hlk hcl haf A K hFm hK
      simp [Aft, Region.binds] at haf
      have g3 : U 15 = (.slice (some ⟨bN, 0, none⟩) d.t.nn cN) := hP 3 15 (by simp [haf]) rfl
      have e15 : A.tmps[15]? = some (.slice (some ⟨bN, 0, none⟩) d.t.nn cN) := hFm.is 3 15 rfl g3
      have g4 : U 16 = (.int .i64 (n : Nat)) := hP 4 16 (by simp [haf]) rfl
      have e16 : A.tmps[16]? = some (.int .i64 (n : Nat)) := hFm.is 4 16 rfl g4
      have HC : Hid _ := hC
      clear hC
      refine ⟨?_⟩
      go_simp
      refine hK _ _ rfl ?_
      obtain ⟨c0, c1, cS⟩ := HC.out
      refine ⟨fun h => c0 (by simpa using h), fun h1 h2 => by have h9 := c1 (by simpa using h1) (by simpa using h2); simpa [updO, Go.Proofs.Ytlonnhnfmcndfac.upd] using h9, fun h => ?_⟩
      have h9 := cS (by simpa using h)
      exact ⟨by simp [h9.1], h9.2⟩
    refine StepsE.run rfl ?_ ?_
    · intro L U wr hC hP hlk hcl haf A K hFm hK
      simp [Aft, Region.binds] at haf
      have g5 : U 17 = (.pointer (some ⟨bN, n * 2, none⟩)) := hP 5 17 (by simp [haf]) rfl
      have e17 : A.tmps[17]? = some (.pointer (some ⟨bN, n * 2, none⟩)) := hFm.is 5 17 rfl g5
      have HC : Hid _ := hC
      clear hC
      refine ⟨?_⟩
      go_simp
      refine hK _ _ rfl ?_
      obtain ⟨c0, c1, cS⟩ := HC.out
      refine ⟨fun h => c0 (by simpa using h), fun h1 h2 => by have h9 := c1 (by simpa using h1) (by simpa using h2); simpa [updO, Go.Proofs.Ytlonnhnfmcndfac.upd] using h9, fun h => ?_⟩
      have h9 := cS (by simpa using h)
      exact ⟨by simp [h9.1], h9.2⟩
    refine StepsE.run rfl ?_ ?_
    · intro L U wr hC hP hlk hcl haf A K hFm hK
      simp [Aft, Region.binds] at haf
      have g6 : U 18 = (.pointer (some ⟨bN, n * 2, none⟩)) := hP 6 18 (by simp [haf]) rfl
      have e18 : A.tmps[18]? = some (.pointer (some ⟨bN, n * 2, none⟩)) := hFm.is 6 18 rfl g6
      obtain ⟨c0, c1, cS⟩ := hC
      have hs : L 18 = false := by cases h : L 18 with | false => rfl | true => exact absurd (cS h).1 (by simp [hlk])
      have hb8 : Below W.heap.size W wr := by
        cases h16 : L 16 with
        | false => exact c0 h16
        | true => exact (c1 h16 hs).1
      have m7 := (hb8.cell (p := ⟨bN, n * 2, none⟩) HNB.out).trans HMF.out
      have hC : _ := And.intro c0 (And.intro c1 cS)
      clear c0 c1 cS hs hb8
      have HC : Hid _ := hC
      clear hC
      refine ⟨?_⟩
      go_simp
      refine hK _ _ rfl ?_
      obtain ⟨c0, c1, cS⟩ := HC.out
      refine ⟨fun h => c0 (by simpa using h), fun h1 h2 => by have h9 := c1 (by simpa using h1) (by simpa using h2); simpa [updO, Go.Proofs.Ytlonnhnfmcndfac.upd] using h9, fun h => ?_⟩
      have h9 := cS (by simpa using h)
      exact ⟨by simp [h9.1], h9.2⟩
    refine StepsE.run rfl ?_ ?_
    · intro L U wr hC hP hlk hcl haf A K hFm hK
      simp [Aft, Region.binds] at haf
      have e0 : A.tmps[0]? = some (.pointer (some ⟨g, 0, none⟩)) := (hFm.old 0 (by decide)).trans (by kernel_rfl)
      have HC : Hid _ := hC
      clear hC
      refine ⟨?_⟩
      go_simp
      refine hK _ _ rfl ?_
      obtain ⟨c0, c1, cS⟩ := HC.out
      refine ⟨fun h => c0 (by simpa using h), fun h1 h2 => by have h9 := c1 (by simpa using h1) (by simpa using h2); simpa [updO, Go.Proofs.Ytlonnhnfmcndfac.upd] using h9, fun h => ?_⟩
      have h9 := cS (by simpa using h)
      exact ⟨by simp [h9.1], h9.2⟩
    refine StepsE.run rfl ?_ ?_
    · intro L U wr hC hP hlk hcl haf A K hFm hK
      simp [Aft, Region.binds] at haf
      have g8 : U 20 = (.pointer (some ⟨g, 0, none⟩)) := hP 8 20 (by simp [haf]) rfl
      have e20 : A.tmps[20]? = some (.pointer (some ⟨g, 0, none⟩)) := hFm.is 8 20 rfl g8
      have hg9 := HGP.out
      have HC : Hid _ := hC
      clear hC
      refine ⟨?_⟩
      go_simp
      refine hK _ _ rfl ?_
      obtain ⟨c0, c1, cS⟩ := HC.out
      refine ⟨fun h => c0 (by simpa using h), fun h1 h2 => by have h9 := c1 (by simpa using h1) (by simpa using h2); simpa [updO, Go.Proofs.Ytlonnhnfmcndfac.upd] using h9, fun h => ?_⟩
      have h9 := cS (by simpa using h)
      exact ⟨by simp [h9.1], h9.2⟩
    refine StepsE.run rfl ?_ ?_
    · intro L U wr hC hP hlk hcl haf A K hFm hK
      simp [Aft, Region.binds] at haf
      have g9 : U 21 = (.pointer (some ⟨g, 0, none⟩)) := hP 9 21 (by simp [haf]) rfl
      have e21 : A.tmps[21]? = some (.pointer (some ⟨g, 0, none⟩)) := hFm.is 9 21 rfl g9
      have hg9 := HGP.out
      have HC : Hid _ := hC
      clear hC
      refine ⟨?_⟩
      go_simp
      refine hK _ _ rfl ?_
      obtain ⟨c0, c1, cS⟩ := HC.out
      refine ⟨fun h => c0 (by simpa using h), fun h1 h2 => by have h9 := c1 (by simpa using h1) (by simpa using h2); simpa [updO, Go.Proofs.Ytlonnhnfmcndfac.upd] using h9, fun h => ?_⟩
      have h9 := cS (by simpa using h)
      exact ⟨by simp [h9.1], h9.2⟩
    refine StepsE.run rfl ?_ ?_
    · intro L U wr hC hP hlk hcl haf A K hFm hK
      simp [Aft, Region.binds] at haf
      have g10 : U 22 = (.pointer (some ⟨g, 0, none⟩)) := hP 10 22 (by simp [haf]) rfl
      have e22 : A.tmps[22]? = some (.pointer (some ⟨g, 0, none⟩)) := hFm.is 10 22 rfl g10
      obtain ⟨c0, c1, cS⟩ := hC
      have hs : L 18 = false := by cases h : L 18 with | false => rfl | true => exact absurd (cS h).1 (by simp [hlk])
      have hb8 : Below W.heap.size W wr := by
        cases h16 : L 16 with
        | false => exact c0 h16
        | true => exact (c1 h16 hs).1
      have m7 := (hb8.cell (p := ⟨g, 0, none⟩) HGB.out).trans HMG.out
      have hC : _ := And.intro c0 (And.intro c1 cS)
      clear c0 c1 cS hs hb8
      have HC : Hid _ := hC
      clear hC
      refine ⟨?_⟩
      go_simp
      refine hK _ _ rfl ?_
      obtain ⟨c0, c1, cS⟩ := HC.out
      refine ⟨fun h => c0 (by simpa using h), fun h1 h2 => by have h9 := c1 (by simpa using h1) (by simpa using h2); simpa [updO, Go.Proofs.Ytlonnhnfmcndfac.upd] using h9, fun h => ?_⟩
      have h9 := cS (by simpa using h)
      exact ⟨by simp [h9.1], h9.2⟩
    refine StepsE.run rfl ?_ ?_
    · intro L U wr hC hP hlk hcl haf A K hFm hK
      simp [Aft, Region.binds] at haf
      have e1 : A.tmps[1]? = some (.int .i64 (n : Nat)) := (hFm.old 1 (by decide)).trans (by kernel_rfl)
      have HC : Hid _ := hC
      clear hC
      refine ⟨?_⟩
      go_simp
      refine hK _ _ rfl ?_
      obtain ⟨c0, c1, cS⟩ := HC.out
      refine ⟨fun h => c0 (by simpa using h), fun h1 h2 => by have h9 := c1 (by simpa using h1) (by simpa using h2); simpa [updO, Go.Proofs.Ytlonnhnfmcndfac.upd] using h9, fun h => ?_⟩
      have h9 := cS (by simpa using h)
      exact ⟨by simp [h9.1], h9.2⟩
    refine StepsE.run rfl ?_ ?_
    · intro L U wr hC hP hlk hcl haf A K hFm hK
      simp [Aft, Region.binds] at haf
      have g11 : U 23 = (.slice (some ⟨bN, 0, none⟩) d.t.nn cN) := hP 11 23 (by simp [haf]) rfl
      have e23 : A.tmps[23]? = some (.slice (some ⟨bN, 0, none⟩) d.t.nn cN) := hFm.is 11 23 rfl g11
      have g12 : U 24 = (.int .i64 (n : Nat)) := hP 12 24 (by simp [haf]) rfl
      have e24 : A.tmps[24]? = some (.int .i64 (n : Nat)) := hFm.is 12 24 rfl g12
      have HC : Hid _ := hC
      clear hC
      refine ⟨?_⟩
      go_simp
      refine hK _ _ rfl ?_
      obtain ⟨c0, c1, cS⟩ := HC.out
      refine ⟨fun h => c0 (by simpa using h), fun h1 h2 => by have h9 := c1 (by simpa using h1) (by simpa using h2); simpa [updO, Go.Proofs.Ytlonnhnfmcndfac.upd] using h9, fun h => ?_⟩
      have h9 := cS (by simpa using h)
      exact ⟨by simp [h9.1], h9.2⟩
    refine StepsE.run rfl ?_ ?_
    · intro L U wr hC hP hlk hcl haf A K hFm hK
      simp [Aft, Region.binds] at haf
      have g13 : U 25 = (.pointer (some ⟨bN, n * 2, none⟩)) := hP 13 25 (by simp [haf]) rfl
      have e25 : A.tmps[25]? = some (.pointer (some ⟨bN, n * 2, none⟩)) := hFm.is 13 25 rfl g13
      have HC : Hid _ := hC
      clear hC
      refine ⟨?_⟩
      go_simp
      refine hK _ _ rfl ?_
      obtain ⟨c0, c1, cS⟩ := HC.out
      refine ⟨fun h => c0 (by simpa using h), fun h1 h2 => by have h9 := c1 (by simpa using h1) (by simpa using h2); simpa [updO, Go.Proofs.Ytlonnhnfmcndfac.upd] using h9, fun h => ?_⟩
      have h9 := cS (by simpa using h)
      exact ⟨by simp [h9.1], h9.2⟩
    refine StepsE.run rfl ?_ ?_
    · intro L U wr hC hP hlk hcl haf A K hFm hK
      simp [Aft, Region.binds] at haf
      have g14 : U 26 = (.pointer (some ⟨bN, n * 2 + 1, none⟩)) := hP 14 26 (by simp [haf]) rfl
      have e26 : A.tmps[26]? = some (.pointer (some ⟨bN, n * 2 + 1, none⟩)) := hFm.is 14 26 rfl g14
      obtain ⟨c0, c1, cS⟩ := hC
      have hs : L 18 = false := by cases h : L 18 with | false => rfl | true => exact absurd (cS h).1 (by simp [hlk])
      have hb8 : Below W.heap.size W wr := by
        cases h16 : L 16 with
        | false => exact c0 h16
        | true => exact (c1 h16 hs).1
      have m7 := (hb8.cell (p := ⟨bN, n * 2 + 1, none⟩) HNB.out).trans HMA.out
      have hC : _ := And.intro c0 (And.intro c1 cS)
      clear c0 c1 cS hs hb8
      have HC : Hid _ := hC
      clear hC
      refine ⟨?_⟩
      go_simp
      refine hK _ _ rfl ?_
      obtain ⟨c0, c1, cS⟩ := HC.out
      refine ⟨fun h => c0 (by simpa using h), fun h1 h2 => by have h9 := c1 (by simpa using h1) (by simpa using h2); simpa [updO, Go.Proofs.Ytlonnhnfmcndfac.upd] using h9, fun h => ?_⟩
      have h9 := cS (by simpa using h)
      exact ⟨by simp [h9.1], h9.2⟩
    refine StepsE.run rfl ?_ ?_
    · intro L U wr hC hP hlk hcl haf A K hFm hK
      simp [Aft, Region.binds] at haf
      have g15 : U 27 = (.slice aZ lz cZ) := hP 15 27 (by simp [haf]) rfl
      have e27 : A.tmps[27]? = some (.slice aZ lz cZ) := hFm.is 15 27 rfl g15
      have HLL : Hid (L 18 = true → L 16 = true) := fun h => ((hC.2.2 h).1).2.2.2.2.2.2.2.2.2.2.2.2.2.2.2.2.1
      have HLK : Hid (L 16 = false) := hlk
      have HL17 : Hid (L 17 = false) := by
        show _ = _
        cases h : L 17 with
        | false => rfl
        | true => have h9 := hcl 17 _ rfl h; simp [Aft, Region.binds, hlk] at h9
      refine ⟨?_⟩
      have hb8 := hC.1 hlk
      clear hC
      go_simp
      refine (HCP.out wr hb8).mono ?_
      rintro e w9 ⟨b9, rfl, hol9, hsz9, hb9⟩
      go_simp
      refine hK _ _ trivial ⟨(fun h => by simp at h), fun _ _ => ⟨hb8.trans (hb9.mono hb8.size), b9, by simp [updO, Go.Proofs.Ytlonnhnfmcndfac.upd], hol9, hsz9, fun h => ?_⟩, fun h => ?_⟩
      · have h9 : L 17 = true := by simpa using h
        rw [HL17.out] at h9
        cases h9
      · have h9 := HLL.out (by simpa using h)
        rw [HLK.out] at h9
        cases h9
    refine StepsE.run rfl ?_ ?_
    · intro L U wr hC hP hlk hcl haf A K hFm hK
      simp [Aft, Region.binds] at haf
      have g7 : U 19 = (.string fk) := hP 7 19 (by simp [haf]) rfl
      have e19 : A.tmps[19]? = some (.string fk) := hFm.is 7 19 rfl g7
      have e28 : A.tmps[28]? = some (U 28) := hFm.got 16 28 rfl
      have l16 : L 16 = true := by simp [haf]
      refine ⟨?_⟩
      have hs : L 18 = false := by cases h : L 18 with | false => rfl | true => exact absurd (hC.2.2 h).1 (by simp [hlk])
      obtain ⟨hb8, b9, hu9, hol9, hsz9, -⟩ := hC.2.1 l16 hs
      have e28b : A.tmps[28]? = some (.slice (some ⟨b9, 0, none⟩) lz lz) := hFm.is 16 28 rfl hu9
      have HCC : Hid _ := hC
      have HNEW : Hid (Below W.heap.size W wr ∧ U 28 = .slice (some ⟨b9, 0, none⟩) lz lz ∧ OL 1 3 wr (.slice (some ⟨b9, 0, none⟩) lz lz) lz (natC ln) ∧ W.heap.size ≤ b9) := ⟨hb8, hu9, hol9, hsz9⟩
      clear hC e28 hb8 hu9 hol9 hsz9
      go_simp
      refine hK _ _ trivial ⟨fun h => HCC.out.1 (by simpa using h), fun h1 h2 => ⟨HNEW.out.1, b9, ?_, HNEW.out.2.2.1, HNEW.out.2.2.2, fun _ => ?_⟩, fun h => ?_⟩
      · simpa [updO, Go.Proofs.Ytlonnhnfmcndfac.upd] using HNEW.out.2.1
      · simp [updO, Go.Proofs.Ytlonnhnfmcndfac.upd]
      · have h9 := HCC.out.2.2 (by simpa using h)
        exact ⟨by simp [h9.1], h9.2⟩
    refine StepsE.run rfl ?_ ?_
    · intro L U wr hC hP hlk hcl haf A K hFm hK
      simp [Aft, Region.binds] at haf
      have e29 : A.tmps[29]? = some (U 29) := hFm.got 17 29 rfl
      have e4 : A.tmps[4]? = some (.pointer (some ⟨b4, 0, none⟩)) := (hFm.old 4 (by decide)).trans (by kernel_rfl)
      have l17 : L 17 = true := by simp [haf]
      have a17 := hcl 17 _ rfl l17
      simp [Aft, Region.binds] at a17
      have l7 : L 7 = true := by simp [a17]
      have l16 : L 16 = true := by simp [a17]
      have a7 := hcl 7 _ rfl l7
      simp [Aft, Region.binds] at a7
      have l6 : L 6 = true := by simp [a7]
      have a16 := hcl 16 _ rfl l16
      simp [Aft, Region.binds] at a16
      have l15 : L 15 = true := by simp [a16]
      have a6 := hcl 6 _ rfl l6
      simp [Aft, Region.binds] at a6
      have l5 : L 5 = true := by simp [a6]
      have a15 := hcl 15 _ rfl l15
      simp [Aft, Region.binds] at a15
      have l14 : L 14 = true := by simp [a15]
      have a5 := hcl 5 _ rfl l5
      simp [Aft, Region.binds] at a5
      have l3 : L 3 = true := by simp [a5]
      have l4 : L 4 = true := by simp [a5]
      have a14 := hcl 14 _ rfl l14
      simp [Aft, Region.binds] at a14
      have l13 : L 13 = true := by simp [a14]
      have a3 := hcl 3 _ rfl l3
      simp [Aft, Region.binds] at a3
      have l2 : L 2 = true := by simp [a3]
      have a13 := hcl 13 _ rfl l13
      simp [Aft, Region.binds] at a13
      have l11 : L 11 = true := by simp [a13]
      have l12 : L 12 = true := by simp [a13]
      have a2 := hcl 2 _ rfl l2
      simp [Aft, Region.binds] at a2
      have l1 : L 1 = true := by simp [a2]
      have a11 := hcl 11 _ rfl l11
      simp [Aft, Region.binds] at a11
      have l10 : L 10 = true := by simp [a11]
      have a1 := hcl 1 _ rfl l1
      simp [Aft, Region.binds] at a1
      have l0 : L 0 = true := by simp [a1]
      have a10 := hcl 10 _ rfl l10
      simp [Aft, Region.binds] at a10
      have l9 : L 9 = true := by simp [a10]
      have a9 := hcl 9 _ rfl l9
      simp [Aft, Region.binds] at a9
      have l8 : L 8 = true := by simp [a9]
      refine ⟨?_⟩
      obtain ⟨hb8, b9, hu9, hol9, hsz9, hu8⟩ := hC.2.1 l16 hlk
      replace hu8 := hu8 l17
      have HKK : Hid _ := HST.out wr b9 hb8 hol9 hsz9
      obtain ⟨k0, k1, k2, k3, k4⟩ := HFR.out wr hb8
      have e29b : A.tmps[29]? = some (.agg #[.string fk, .slice (some ⟨b9, 0, none⟩) lz lz]) := hFm.is 17 29 rfl hu8
      clear hC e29 hb8 hol9 hsz9 hu8 hu9
      go_simp
      exact hK (.tuple #[]) _ trivial ⟨(fun h => by simp [l16] at h), (fun h1 h2 => by simp at h2), fun _ => ⟨by simp [l0, l1, l2, l3, l4, l5, l6, l7, l8, l9, l10, l11, l12, l13, l14, l15, l16, l17], HKK.out⟩⟩
    refine StepsE.run rfl ?_ StepsE.nil
    · intro L U wr hC hP hlk hcl haf A K hFm hK
      simp [Aft, Region.binds] at haf
      have HC : Hid _ := hC
      clear hC
      refine ⟨?_⟩
      go_simp
      refine hK _ _ rfl ?_
      obtain ⟨c0, c1, cS⟩ := HC.out
      refine ⟨fun h => c0 (by simpa using h), fun h1 h2 => by have h9 := c1 (by simpa using h1) (by simpa using h2); simpa [updO, Go.Proofs.Ytlonnhnfmcndfac.upd] using h9, fun h => ?_⟩
      have h9 := cS (by simpa using h)
      exact ⟨by simp [h9.1], h9.2⟩
  intro L U5 V5 hall hC hP
  have hE := (hC.2.2 (hall 18 (by decide))).2
  rw [hE5] at hE
  have e5 : U5 5 = .bool true := hP 19 5 rfl
  simp only [setM_some, setM_none, setM_nil]
  rw [e5]
  obtain ⟨b9, r0, r1, hol, hsz, hbb⟩ := hE
  have HE : Hid (OL 1 3 V5 (.slice (some ⟨b9, 0, none⟩) lz lz) lz (natC ln) ∧ w.heap.size ≤ b9 ∧ Below w.heap.size w V5) := ⟨hol, hsz, hbb⟩
  clear hC hP hall e5 hE5 HST HFR HCP HMG HMF HMA HGB HNB hol hsz hbb
  go_wp2
  refine bodyPost_ret (v := .tuple #[.agg #[.string fk, .slice (some ⟨b9, 0, none⟩) lz lz], .bool true]) (by simp [results, Try.results14, go_sem, r0, r1]) rfl ?_
  exact ⟨b9, rfl, HE.out⟩
end Euf
end Go.Proofs.Ytlonnhnfmcndfac
