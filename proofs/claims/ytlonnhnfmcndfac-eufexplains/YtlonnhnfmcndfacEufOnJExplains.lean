/- The document's graph with some of its equations alone; no statement of the seat is proved here. -/
import Derived.Test.YtlonnhnfmcndfacEufCdJExplains
import Derived.Test.YtlonnhnfmcndfacEufAkJExplains
namespace Go.Proofs.Ytlonnhnfmcndfac
open Go.RowKit
set_option linter.unusedVariables false
namespace Euf
/-- What Only holds. -/
structure OWs (w wr : World) (b2 b4 b5 : Nat) (vN vE v : Value) (k : Nat) (fe : Nat → List Value) : Prop where
  x2 : Blk 28 wr b2 #[vN, vE]
  x4 : Blk 28 wr b4 #[.slice none 0 0, .slice none 0 0]
  x5 : Blk 28 wr b5 #[vN, v]
  own : OL 2 59 wr v k fe
  ne : b2 ≠ b5 ∧ b4 ≠ b5 ∧ b2 ≠ b4 ∧ w.heap.size ≤ b2 ∧ w.heap.size ≤ b4 ∧ w.heap.size ≤ b5
  ob : ∀ b, v.ownBlock = some b → w.heap.size ≤ b
  bel : Below w.heap.size w wr
section
variable {w wr w' : World} {b2 b4 b5 : Nat} {vN vE v v' : Value} {k : Nat} {fe : Nat → List Value}
theorem OWs.below (h : OWs w wr b2 b4 b5 vN vE v k fe) (hb : Below wr.heap.size wr w') : OWs w w' b2 b4 b5 vN vE v k fe :=
  { h with x2 := h.x2.stay hb, x4 := h.x4.stay hb, x5 := h.x5.stay hb, own := h.own.stay (fun b hb' => hb.block b (h.own.lt hb')), bel := h.bel.trans (hb.mono h.bel.size) }
theorem OWs.push (h : OWs w wr b2 b4 b5 vN vE v k fe) (hap : App v v' wr w') (hol : OL 2 59 w' v' (k + 1) fe) : OWs w (w'.setCell ⟨b5, 1, none⟩ v') b2 b4 b5 vN vE v' (k + 1) fe := by
  have hsz := h.bel.size
  have g2 : Blk 28 w' b2 _ := (hap.other b2 h.x2.lt (h.own.neB h.x2 (by decide))).trans h.x2
  have g4 : Blk 28 w' b4 _ := (hap.other b4 h.x4.lt (h.own.neB h.x4 (by decide))).trans h.x4
  have g5 : Blk 28 w' b5 _ := (hap.other b5 h.x5.lt (h.own.neB h.x5 (by decide))).trans h.x5
  have oth : ∀ b, b ≠ b5 → (w'.setCell ⟨b5, 1, none⟩ v').heap[b]? = w'.heap[b]? := fun b hb => heap_setCell_other w' ⟨b5, 1, none⟩ b v' hb
  refine { x2 := (oth b2 h.ne.1).trans g2, x4 := (oth b4 h.ne.2.1).trans g4, x5 := ?_, own := hol.stay (fun b hb => oth b (fun e => hol.neB g5 (by decide) (by rw [hb, e]))), ne := h.ne, ob := fun b hb => ?_, bel := ?_ }
  · have := Blk.set g5 1 v'
    simpa using this
  · rcases hap.at_ with e | ⟨b', e1, e2⟩
    · exact h.ob b (e ▸ hb)
    · rw [e1] at hb; injection hb with hb; omega
  · exact (h.bel.trans (hap.toBelow hsz h.ob)).setCell (p := ⟨b5, 1, none⟩) h.ne.2.2.2.2.2 v'
end

set_option maxRecDepth 20000 in
set_option maxHeartbeats 16000000 in
theorem Only_any (d : Gd) (aN aE : Option Addr) (cN cE : Nat) (rg : Nat → Value) (aL : Option Addr) (n cL : Nat) (lf : Nat → Nat) (w : World) (hr : RG w (.slice aN d.t.nn cN) (.slice aE d.f.ne cE) rg d) (hL : OL 1 3 w (.slice aL n cL) n (fun i => [.int .i64 (lf i : Nat)])) (hlt : ∀ i, i < n → lf i < d.f.ne) (hn : n ≤ 1000) (he : d.f.ne ≤ 1000) :
    Calls Try.prog 19 #[.agg #[.slice aN d.t.nn cN, .slice aE d.f.ne cE], .slice aL n cL] w fun e w' => ∃ (aO : Option Addr) (cO : Nat), e = .returned (.agg #[.slice aN d.t.nn cN, .slice aO n cO]) ∧ OL 2 59 w' (.slice aO n cO) n (fun i => eqP d.f (lf i)) ∧ (∀ b, (Value.slice aO n cO).ownBlock = some b → w.heap.size ≤ b) ∧ Below w.heap.size w w' := by
  have HR : Hid (RG w (.slice aN d.t.nn cN) (.slice aE d.f.ne cE) rg d) := hr
  have HL : Hid (OL 1 3 w (.slice aL n cL) n (fun i => [.int .i64 (lf i : Nat)]) ∧ ∀ i, i < n → lf i < d.f.ne) := ⟨hL, hlt⟩
  clear hr hL hlt
  have hnI : (n : Int) ≤ 1000 := by omega
  go_enter Try.func19, Try.ntmps19
  go_wp2
  obtain ⟨W, hW⟩ : ∃ W, W = ((w.alloc (.cells #[.slice aN d.t.nn cN, .slice aE d.f.ne cE] 28)).alloc (.cells #[.slice none 0 0, .slice none 0 0] 28)).alloc (.cells #[.slice aN d.t.nn cN, .slice none 0 0] 28) := ⟨_, rfl⟩
  rw [← hW]
  have HO : Hid (OWs w W w.heap.size (w.heap.size + 1) (w.heap.size + 2) (.slice aN d.t.nn cN) (.slice aE d.f.ne cE) (.slice none 0 0) 0 (fun q => eqP d.f (lf q))) := by
    refine { x2 := ?_, x4 := ?_, x5 := ?_, own := OL.nil _ _ _ _, ne := by omega, ob := (fun b hb => by cases hb), bel := by rw [hW]; go_grown }
    · rw [hW]
      exact (Below.heap_alloc _ _ w.heap.size (by simp; omega)).trans ((Below.heap_alloc _ _ w.heap.size (by simp)).trans (heap_alloc_new w _))
    · rw [hW]
      refine (Below.heap_alloc _ _ (w.heap.size + 1) (by simp)).trans ?_
      have := heap_alloc_new (w.alloc (.cells #[.slice aN d.t.nn cN, .slice aE d.f.ne cE] 28)) (.cells #[.slice none 0 0, .slice none 0 0] 28)
      simpa using this
    · rw [hW]
      have h9 := heap_alloc_new ((w.alloc (.cells #[.slice aN d.t.nn cN, .slice aE d.f.ne cE] 28)).alloc (.cells #[.slice none 0 0, .slice none 0 0] 28)) (.cells #[.slice aN d.t.nn cN, .slice none 0 0] 28)
      have h8 : ((w.alloc (.cells #[.slice aN d.t.nn cN, .slice aE d.f.ne cE] 28)).alloc (.cells #[.slice none 0 0, .slice none 0 0] 28)).heap.size = w.heap.size + 2 := by simp
      rw [h8] at h9
      exact h9
  obtain ⟨b2, h2⟩ : ∃ b2, b2 = w.heap.size := ⟨_, rfl⟩
  obtain ⟨b4, h4⟩ : ∃ b4, b4 = w.heap.size + 1 := ⟨_, rfl⟩
  obtain ⟨b5, h5⟩ : ∃ b5, b5 = w.heap.size + 2 := ⟨_, rfl⟩
  rw [← h5, ← h4, ← h2] at HO
  try rw [show w.heap.size + 1 + 1 = w.heap.size + 2 from rfl]
  rw [← h5, ← h4, ← h2]
  clear hW h2 h4 h5
  go_loopw [6] (fun v6 wr => ∃ (i : Nat) (v : Value), v6 = .int .i64 (i : Nat) ∧ i ≤ n ∧ Hid (OWs w wr b2 b4 b5 (.slice aN d.t.nn cN) (.slice aE d.f.ne cE) v i (fun q => eqP d.f (lf q)))) (fun v _ => n - (intOf v).toNat)
  case atStart => exact ⟨0, _, rfl, Nat.zero_le _, HO.out⟩
  case round =>
    rename World => wl
    clear HO
    obtain ⟨i, v, rfl, hi, HO⟩ := hrel
    obtain ⟨y0, y1, -, -⟩ := HO.out.x2.two
    obtain ⟨u0, u1, f0, f1⟩ := HO.out.x4.two
    obtain ⟨z0, z1, -, -⟩ := HO.out.x5.two
    have hl2 := HO.out.x2.lt
    have hl4 := HO.out.x4.lt
    have hl5 := HO.out.x5.lt
    by_cases hlt : i < n
    · have hltI : (i : Int) < (n : Int) := by omega
      obtain ⟨bL, cL', hvL, -, -⟩ := HL.out.1.open i hlt
      injection hvL with hvL e2 e3
      clear e2
      subst hvL e3
      have HX : Hid (lf i < d.f.ne) := HL.out.2 i hlt
      obtain ⟨bE, cE', hvE, -, -⟩ := HR.out.eqs.open (lf i) HX.out
      injection hvE with hvE e2 e3
      clear e2
      subst hvE e3
      have l0 := HL.out.1.cell (i := i) hlt (j := 0) (by omega)
      have n0 := HR.out.eqs.cell (i := lf i) HX.out (j := 0) (by omega)
      have n1 := HR.out.eqs.cell (i := lf i) HX.out (j := 1) (by omega)
      simp only [eqP, Nat.add_zero, Nat.mul_one, List.getElem?_cons_zero, List.getElem?_cons_succ] at l0 n0 n1
      have hbL : bL < w.heap.size := HL.out.1.lt rfl
      have hbE : bE < w.heap.size := HR.out.eqs.lt rfl
      have hbl := HO.out.bel
      replace l0 := (hbl.cell (p := ⟨bL, i, none⟩) hbL).trans l0
      replace n0 := (hbl.cell (p := ⟨bE, lf i * 2, none⟩) hbE).trans n0
      replace n1 := (hbl.cell (p := ⟨bE, lf i * 2 + 1, none⟩) hbE).trans n1
      have HBB : Hid (bL < w.heap.size ∧ bE < w.heap.size) := ⟨hbL, hbE⟩
      replace hbL : bL < wl.heap.size := Nat.lt_of_lt_of_le hbL hbl.size
      replace hbE : bE < wl.heap.size := Nat.lt_of_lt_of_le hbE hbl.size
      have HXX : Hid (eqP d.f (lf i) = [.int .i64 ((d.f.E (lf i)).1 : Nat), .int .i64 ((d.f.E (lf i)).2.1 : Nat)]) := rfl
      have hxn := HX.out
      obtain ⟨x, hx⟩ : ∃ x, x = lf i := ⟨_, rfl⟩
      obtain ⟨xa, hxa⟩ : ∃ xa, xa = (d.f.E (lf i)).1 := ⟨_, rfl⟩
      obtain ⟨xb, hxb⟩ : ∃ xb, xb = (d.f.E (lf i)).2.1 := ⟨_, rfl⟩
      rw [← hxa] at n0 HXX
      rw [← hxb] at n1 HXX
      rw [← hx] at l0 n0 n1 hxn
      have hxI : (x : Int) < (d.f.ne : Int) := by omega
      have hx0 : ¬ ((x : Int) < 0) := by omega
      have hxJ : (0 : Int) ≤ (x : Int) := by omega
      clear hx hxa hxb HX hbl u0 u1 f0 f1 z0
      go_upto_region 6 with fail
      go_cut [30] (fun v30 wx => v30 = .bool true ∧ Hid (Below wl.heap.size wl wx))
      case first =>
        clear HL HR HO HXX HBB
        go_wp2
        go_quiet (fail)
        go_wp2_with fail
        go_meet
        exact ⟨rfl, ⟨rfl, rfl, rfl, Nat.le_refl _, fun _ _ => rfl⟩⟩
      case rest =>
        obtain ⟨rfl, HBQ⟩ := hcut
        have HOm : Hid (OWs w wc b2 b4 b5 (.slice aN d.t.nn cN) (.slice (some ⟨bE, 0, none⟩) d.f.ne cE) v i (fun q => eqP d.f (lf q))) := HO.out.below HBQ.out
        have hbq := HBQ.out
        replace l0 := (hbq.cell (p := ⟨bL, i, none⟩) hbL).trans l0
        replace n0 := (hbq.cell (p := ⟨bE, x * 2, none⟩) hbE).trans n0
        replace n1 := (hbq.cell (p := ⟨bE, x * 2 + 1, none⟩) hbE).trans n1
        replace y1 := (hbq.cell (p := ⟨b2, 1, none⟩) hl2).trans y1
        replace z1 := (hbq.cell (p := ⟨b5, 1, none⟩) hl5).trans z1
        have hszq := hbq.size
        clear hbq HO HBQ y0
        obtain ⟨wm, hwm⟩ : ∃ wm, wm = wc := ⟨_, rfl⟩
        rw [← hwm] at HOm l0 n0 n1 y1 z1 hszq ⊢
        clear hwm
        have hobb := HOm.out.ob
        have hv5 : v.ownBlock ≠ some b5 := HOm.out.own.neB HOm.out.x5 (by decide)
        have hv2 : v.ownBlock ≠ some b2 := HOm.out.own.neB HOm.out.x2 (by decide)
        have hvL : v.ownBlock ≠ some bL := fun e => by have := hobb _ e; have := HBB.out.1; omega
        have hvE : v.ownBlock ≠ some bE := fun e => by have := hobb _ e; have := HBB.out.2; omega
        have hx5 := HOm.out.x5
        replace hl2 : b2 < wm.heap.size := by omega
        replace hl5 : b5 < wm.heap.size := by omega
        replace hbL : bL < wm.heap.size := by omega
        replace hbE : bE < wm.heap.size := by omega
        obtain ⟨E5, hE5⟩ : ∃ E5 : World → Prop, E5 = fun wr => ∃ v, OWs w wr b2 b4 b5 (.slice aN d.t.nn cN) (.slice (some ⟨bE, 0, none⟩) d.f.ne cE) v (i + 1) (fun q => eqP d.f (lf q)) := ⟨_, rfl⟩
        obtain ⟨M5, hM5⟩ : ∃ M5 : World → Prop, M5 = fun wr => wr.cell? ⟨b5, 1, none⟩ = some v ∧ wr.cell? ⟨b2, 1, none⟩ = some (.slice (some ⟨bE, 0, none⟩) d.f.ne cE) ∧ wr.cell? ⟨bL, i, none⟩ = some (.int .i64 (x : Nat)) ∧ wr.cell? ⟨bE, x * 2, none⟩ = some (.int .i64 (xa : Nat)) ∧ wr.cell? ⟨bE, x * 2 + 1, none⟩ = some (.int .i64 (xb : Nat)) ∧ b5 < wr.heap.size ∧ b2 < wr.heap.size ∧ bL < wr.heap.size ∧ bE < wr.heap.size := ⟨_, rfl⟩
        have HM0 : Hid (∀ wr, Below wm.heap.size wm wr → M5 wr) := by
          intro wr h1; rw [hM5]
          have := h1.size
          exact ⟨(h1.cell (p := ⟨b5, 1, none⟩) hl5).trans z1, (h1.cell (p := ⟨b2, 1, none⟩) hl2).trans y1, (h1.cell (p := ⟨bL, i, none⟩) hbL).trans l0, (h1.cell (p := ⟨bE, x * 2, none⟩) hbE).trans n0, (h1.cell (p := ⟨bE, x * 2 + 1, none⟩) hbE).trans n1, by omega, by omega, by omega, by omega⟩
        have HM1 : Hid (∀ wr v9, App v v9 wm wr → M5 wr) := by
          intro wr v9 h1; rw [hM5]
          have := h1.size
          exact ⟨(World.cell?_of_block (a := ⟨b5, 1, none⟩) (h1.other _ hl5 hv5)).trans z1, (World.cell?_of_block (a := ⟨b2, 1, none⟩) (h1.other _ hl2 hv2)).trans y1, (World.cell?_of_block (a := ⟨bL, i, none⟩) (h1.other _ hbL hvL)).trans l0, (World.cell?_of_block (a := ⟨bE, x * 2, none⟩) (h1.other _ hbE hvE)).trans n0, (World.cell?_of_block (a := ⟨bE, x * 2 + 1, none⟩) (h1.other _ hbE hvE)).trans n1, by omega, by omega, by omega, by omega⟩
        have HFZ : Hid (∀ wr v9, App v v9 wm wr → wr.cell? ⟨b5, 1, none⟩ = some v ∧ wr.frozen? ⟨b5, 1, none⟩ = false) := by
          intro wr v9 h1
          have h2 := HM1.out wr v9 h1
          rw [hM5] at h2
          exact ⟨h2.1, frozen_of_row wr b5 1 _ 28 ((h1.other b5 hl5 hv5).trans hx5)⟩
        have HOWN : Hid (∀ wr, Below wm.heap.size wm wr → OL 2 59 wr v i (fun q => eqP d.f (lf q))) := fun wr h1 => (HOm.out.below h1).own
        have HNB : Hid (i + 1 ≤ 1000000000) := by show _ ≤ _; omega
        have HSET : Hid (∀ wr v9, OL 2 59 wr v9 (i + 1) (fun q => eqP d.f (lf q)) → App v v9 wm wr → v9 ≠ .slice none 0 0 → E5 (wr.setCell ⟨b5, 1, none⟩ v9)) := by
          intro wr v9 h1 h2 h3
          rw [hE5]
          exact ⟨v9, HOm.out.push h2 h1⟩
        clear l0 n0 n1 y1 z1 hv5 hv2 hvL hvE hx5 hobb hszq hl2 hl5 hbL hbE HBB hl4
        go_wp2
        refine wp_region_E (by kernel_rfl) [some 31, some 32, some 33, some 34, some 35, some 36, some 37, some 38, some 39, some 40, some 41, some 42, some 43, none] [none, none, none, none, none, none, none, none, none, none, none, none, none, none, none, none, none, none, none, none, none, none, none, none, none, none, none, none, none, none, none, some 31, some 32, some 33, some 34, some 35, some 36, some 37, some 38, some 39, some 40, some 41, some 42, some 43] (fun U => by kernel_rfl) [fun u => u = (.pointer (some ⟨b5, 1, none⟩)), fun u => u = (v), fun u => u = (.pointer (some ⟨b2, 1, none⟩)), fun u => u = (.slice (some ⟨bE, 0, none⟩) d.f.ne cE), fun u => u = (.slice (some ⟨bL, 0, none⟩) n cL), fun u => u = (.int .i64 (i : Nat)), fun u => u = (.pointer (some ⟨bL, i, none⟩)), fun u => u = (.int .i64 (x : Nat)), fun u => u = (.pointer (some ⟨bE, x * 2, none⟩)), fun u => u = (.agg #[.int .i64 (xa : Nat), .int .i64 (xb : Nat)]), fun _ => True, fun _ => True, fun u => u = (.pointer (some ⟨b5, 1, none⟩)), fun _ => True] (fun L U wr => (L 11 = false → Below wm.heap.size wm wr) ∧ (L 10 = true → L 11 = false → ONE5 59 [.int .i64 (xa : Nat), .int .i64 (xb : Nat)] (U 41) wr) ∧ (L 11 = true → L 13 = false → OL 2 59 wr (U 42) (i + 1) (fun q => eqP d.f (lf q)) ∧ App (v) (U 42) wm wr ∧ U 42 ≠ .slice none 0 0) ∧ (L 13 = true → (L 0 = true ∧ L 1 = true ∧ L 2 = true ∧ L 3 = true ∧ L 4 = true ∧ L 5 = true ∧ L 6 = true ∧ L 7 = true ∧ L 8 = true ∧ L 9 = true ∧ L 10 = true ∧ L 11 = true ∧ L 12 = true) ∧ E5 wr)) (by kernel_rfl) (by decide) (by kernel_rfl) (by kernel_rfl) ?_ ?_ ?_
        · exact fun U => ⟨fun _ => (Below.refl _ _).drew, (fun h => by cases h), (fun h => by cases h), (fun h => by cases h)⟩
        · refine StepsE.run rfl ?_ ?_
          · intro L U wr hC hP hlk hcl haf A K hFm hK
            simp [Aft, Region.binds] at haf
            have e5 : A.tmps[5]? = some (.pointer (some ⟨b5, 0, none⟩)) := (hFm.old 5 (by decide)).trans (by kernel_rfl)
            have hM8 : M5 wr := by
              obtain ⟨c0, cB, c1, cS⟩ := hC
              have hs : L 13 = false := by cases h : L 13 with | false => rfl | true => exact absurd (cS h).1 (by simp [hlk])
              cases h14 : L 11 with
              | false => exact HM0.out wr (c0 h14)
              | true => exact HM1.out wr (U 42) (c1 h14 hs).2.1
            rw [hM5] at hM8
            obtain ⟨m7, m8, m9, ma, mb, hl5, hl2, hlL, hlE⟩ := hM8
            have HC : Hid _ := hC
            clear hC
            refine ⟨?_⟩
            go_simp
            refine hK _ _ rfl ?_
            obtain ⟨c0, cB, c1, cS⟩ := HC.out
            refine ⟨fun h => c0 (by simpa using h), (fun h1 h2 => by have h9 := cB (by simpa using h1) (by simpa using h2); simpa [updO, Go.Proofs.Ytlonnhnfmcndfac.upd] using h9), (fun h1 h2 => by have h9 := c1 (by simpa using h1) (by simpa using h2); simpa [updO, Go.Proofs.Ytlonnhnfmcndfac.upd] using h9), fun h => ?_⟩
            have h9 := cS (by simpa using h)
            exact ⟨by simp [h9.1], h9.2⟩
          refine StepsE.run rfl ?_ ?_
          · intro L U wr hC hP hlk hcl haf A K hFm hK
            simp [Aft, Region.binds] at haf
            have g0 : U 31 = (.pointer (some ⟨b5, 1, none⟩)) := hP 0 31 (by simp [haf]) rfl
            have e31 : A.tmps[31]? = some (.pointer (some ⟨b5, 1, none⟩)) := hFm.is 0 31 rfl g0
            have hM8 : M5 wr := by
              obtain ⟨c0, cB, c1, cS⟩ := hC
              have hs : L 13 = false := by cases h : L 13 with | false => rfl | true => exact absurd (cS h).1 (by simp [hlk])
              cases h14 : L 11 with
              | false => exact HM0.out wr (c0 h14)
              | true => exact HM1.out wr (U 42) (c1 h14 hs).2.1
            rw [hM5] at hM8
            obtain ⟨m7, m8, m9, ma, mb, hl5, hl2, hlL, hlE⟩ := hM8
            have HC : Hid _ := hC
            clear hC
            refine ⟨?_⟩
            go_simp
            refine hK _ _ rfl ?_
            obtain ⟨c0, cB, c1, cS⟩ := HC.out
            refine ⟨fun h => c0 (by simpa using h), (fun h1 h2 => by have h9 := cB (by simpa using h1) (by simpa using h2); simpa [updO, Go.Proofs.Ytlonnhnfmcndfac.upd] using h9), (fun h1 h2 => by have h9 := c1 (by simpa using h1) (by simpa using h2); simpa [updO, Go.Proofs.Ytlonnhnfmcndfac.upd] using h9), fun h => ?_⟩
            have h9 := cS (by simpa using h)
            exact ⟨by simp [h9.1], h9.2⟩
          refine StepsE.run rfl ?_ ?_
          · intro L U wr hC hP hlk hcl haf A K hFm hK
            simp [Aft, Region.binds] at haf
            have e2 : A.tmps[2]? = some (.pointer (some ⟨b2, 0, none⟩)) := (hFm.old 2 (by decide)).trans (by kernel_rfl)
            have hM8 : M5 wr := by
              obtain ⟨c0, cB, c1, cS⟩ := hC
              have hs : L 13 = false := by cases h : L 13 with | false => rfl | true => exact absurd (cS h).1 (by simp [hlk])
              cases h14 : L 11 with
              | false => exact HM0.out wr (c0 h14)
              | true => exact HM1.out wr (U 42) (c1 h14 hs).2.1
            rw [hM5] at hM8
            obtain ⟨m7, m8, m9, ma, mb, hl5, hl2, hlL, hlE⟩ := hM8
            have HC : Hid _ := hC
            clear hC
            refine ⟨?_⟩
            go_simp
            refine hK _ _ rfl ?_
            obtain ⟨c0, cB, c1, cS⟩ := HC.out
            refine ⟨fun h => c0 (by simpa using h), (fun h1 h2 => by have h9 := cB (by simpa using h1) (by simpa using h2); simpa [updO, Go.Proofs.Ytlonnhnfmcndfac.upd] using h9), (fun h1 h2 => by have h9 := c1 (by simpa using h1) (by simpa using h2); simpa [updO, Go.Proofs.Ytlonnhnfmcndfac.upd] using h9), fun h => ?_⟩
            have h9 := cS (by simpa using h)
            exact ⟨by simp [h9.1], h9.2⟩
          refine StepsE.run rfl ?_ ?_
          · intro L U wr hC hP hlk hcl haf A K hFm hK
            simp [Aft, Region.binds] at haf
            have g2 : U 33 = (.pointer (some ⟨b2, 1, none⟩)) := hP 2 33 (by simp [haf]) rfl
            have e33 : A.tmps[33]? = some (.pointer (some ⟨b2, 1, none⟩)) := hFm.is 2 33 rfl g2
            have hM8 : M5 wr := by
              obtain ⟨c0, cB, c1, cS⟩ := hC
              have hs : L 13 = false := by cases h : L 13 with | false => rfl | true => exact absurd (cS h).1 (by simp [hlk])
              cases h14 : L 11 with
              | false => exact HM0.out wr (c0 h14)
              | true => exact HM1.out wr (U 42) (c1 h14 hs).2.1
            rw [hM5] at hM8
            obtain ⟨m7, m8, m9, ma, mb, hl5, hl2, hlL, hlE⟩ := hM8
            have HC : Hid _ := hC
            clear hC
            refine ⟨?_⟩
            go_simp
            refine hK _ _ rfl ?_
            obtain ⟨c0, cB, c1, cS⟩ := HC.out
            refine ⟨fun h => c0 (by simpa using h), (fun h1 h2 => by have h9 := cB (by simpa using h1) (by simpa using h2); simpa [updO, Go.Proofs.Ytlonnhnfmcndfac.upd] using h9), (fun h1 h2 => by have h9 := c1 (by simpa using h1) (by simpa using h2); simpa [updO, Go.Proofs.Ytlonnhnfmcndfac.upd] using h9), fun h => ?_⟩
            have h9 := cS (by simpa using h)
            exact ⟨by simp [h9.1], h9.2⟩
          refine StepsE.run rfl ?_ ?_
          · intro L U wr hC hP hlk hcl haf A K hFm hK
            simp [Aft, Region.binds] at haf
            have e1 : A.tmps[1]? = some (.slice (some ⟨bL, 0, none⟩) n cL) := (hFm.old 1 (by decide)).trans (by kernel_rfl)
            have HC : Hid _ := hC
            clear hC
            refine ⟨?_⟩
            go_simp
            refine hK _ _ rfl ?_
            obtain ⟨c0, cB, c1, cS⟩ := HC.out
            refine ⟨fun h => c0 (by simpa using h), (fun h1 h2 => by have h9 := cB (by simpa using h1) (by simpa using h2); simpa [updO, Go.Proofs.Ytlonnhnfmcndfac.upd] using h9), (fun h1 h2 => by have h9 := c1 (by simpa using h1) (by simpa using h2); simpa [updO, Go.Proofs.Ytlonnhnfmcndfac.upd] using h9), fun h => ?_⟩
            have h9 := cS (by simpa using h)
            exact ⟨by simp [h9.1], h9.2⟩
          refine StepsE.run rfl ?_ ?_
          · intro L U wr hC hP hlk hcl haf A K hFm hK
            simp [Aft, Region.binds] at haf
            have e6 : A.tmps[6]? = some (.int .i64 (i : Nat)) := (hFm.old 6 (by decide)).trans (by kernel_rfl)
            have HC : Hid _ := hC
            clear hC
            refine ⟨?_⟩
            go_simp
            refine hK _ _ rfl ?_
            obtain ⟨c0, cB, c1, cS⟩ := HC.out
            refine ⟨fun h => c0 (by simpa using h), (fun h1 h2 => by have h9 := cB (by simpa using h1) (by simpa using h2); simpa [updO, Go.Proofs.Ytlonnhnfmcndfac.upd] using h9), (fun h1 h2 => by have h9 := c1 (by simpa using h1) (by simpa using h2); simpa [updO, Go.Proofs.Ytlonnhnfmcndfac.upd] using h9), fun h => ?_⟩
            have h9 := cS (by simpa using h)
            exact ⟨by simp [h9.1], h9.2⟩
          refine StepsE.run rfl ?_ ?_
          · intro L U wr hC hP hlk hcl haf A K hFm hK
            simp [Aft, Region.binds] at haf
            have g4 : U 35 = (.slice (some ⟨bL, 0, none⟩) n cL) := hP 4 35 (by simp [haf]) rfl
            have e35 : A.tmps[35]? = some (.slice (some ⟨bL, 0, none⟩) n cL) := hFm.is 4 35 rfl g4
            have g5 : U 36 = (.int .i64 (i : Nat)) := hP 5 36 (by simp [haf]) rfl
            have e36 : A.tmps[36]? = some (.int .i64 (i : Nat)) := hFm.is 5 36 rfl g5
            have HC : Hid _ := hC
            clear hC
            refine ⟨?_⟩
            go_simp
            refine hK _ _ rfl ?_
            obtain ⟨c0, cB, c1, cS⟩ := HC.out
            refine ⟨fun h => c0 (by simpa using h), (fun h1 h2 => by have h9 := cB (by simpa using h1) (by simpa using h2); simpa [updO, Go.Proofs.Ytlonnhnfmcndfac.upd] using h9), (fun h1 h2 => by have h9 := c1 (by simpa using h1) (by simpa using h2); simpa [updO, Go.Proofs.Ytlonnhnfmcndfac.upd] using h9), fun h => ?_⟩
            have h9 := cS (by simpa using h)
            exact ⟨by simp [h9.1], h9.2⟩
          refine StepsE.run rfl ?_ ?_
          · intro L U wr hC hP hlk hcl haf A K hFm hK
            simp [Aft, Region.binds] at haf
            have g6 : U 37 = (.pointer (some ⟨bL, i, none⟩)) := hP 6 37 (by simp [haf]) rfl
            have e37 : A.tmps[37]? = some (.pointer (some ⟨bL, i, none⟩)) := hFm.is 6 37 rfl g6
            have hM8 : M5 wr := by
              obtain ⟨c0, cB, c1, cS⟩ := hC
              have hs : L 13 = false := by cases h : L 13 with | false => rfl | true => exact absurd (cS h).1 (by simp [hlk])
              cases h14 : L 11 with
              | false => exact HM0.out wr (c0 h14)
              | true => exact HM1.out wr (U 42) (c1 h14 hs).2.1
            rw [hM5] at hM8
            obtain ⟨m7, m8, m9, ma, mb, hl5, hl2, hlL, hlE⟩ := hM8
            have HC : Hid _ := hC
            clear hC
            refine ⟨?_⟩
            go_simp
            refine hK _ _ rfl ?_
            obtain ⟨c0, cB, c1, cS⟩ := HC.out
            refine ⟨fun h => c0 (by simpa using h), (fun h1 h2 => by have h9 := cB (by simpa using h1) (by simpa using h2); simpa [updO, Go.Proofs.Ytlonnhnfmcndfac.upd] using h9), (fun h1 h2 => by have h9 := c1 (by simpa using h1) (by simpa using h2); simpa [updO, Go.Proofs.Ytlonnhnfmcndfac.upd] using h9), fun h => ?_⟩
            have h9 := cS (by simpa using h)
            exact ⟨by simp [h9.1], h9.2⟩
          refine StepsE.run rfl ?_ ?_
          · intro L U wr hC hP hlk hcl haf A K hFm hK
            simp [Aft, Region.binds] at haf
            have g3 : U 34 = (.slice (some ⟨bE, 0, none⟩) d.f.ne cE) := hP 3 34 (by simp [haf]) rfl
            have e34 : A.tmps[34]? = some (.slice (some ⟨bE, 0, none⟩) d.f.ne cE) := hFm.is 3 34 rfl g3
            have g7 : U 38 = (.int .i64 (x : Nat)) := hP 7 38 (by simp [haf]) rfl
            have e38 : A.tmps[38]? = some (.int .i64 (x : Nat)) := hFm.is 7 38 rfl g7
            have HC : Hid _ := hC
            clear hC
            refine ⟨?_⟩
            go_simp
            refine hK _ _ rfl ?_
            obtain ⟨c0, cB, c1, cS⟩ := HC.out
            refine ⟨fun h => c0 (by simpa using h), (fun h1 h2 => by have h9 := cB (by simpa using h1) (by simpa using h2); simpa [updO, Go.Proofs.Ytlonnhnfmcndfac.upd] using h9), (fun h1 h2 => by have h9 := c1 (by simpa using h1) (by simpa using h2); simpa [updO, Go.Proofs.Ytlonnhnfmcndfac.upd] using h9), fun h => ?_⟩
            have h9 := cS (by simpa using h)
            exact ⟨by simp [h9.1], h9.2⟩
          refine StepsE.run rfl ?_ ?_
          · intro L U wr hC hP hlk hcl haf A K hFm hK
            simp [Aft, Region.binds] at haf
            have g8 : U 39 = (.pointer (some ⟨bE, x * 2, none⟩)) := hP 8 39 (by simp [haf]) rfl
            have e39 : A.tmps[39]? = some (.pointer (some ⟨bE, x * 2, none⟩)) := hFm.is 8 39 rfl g8
            have hM8 : M5 wr := by
              obtain ⟨c0, cB, c1, cS⟩ := hC
              have hs : L 13 = false := by cases h : L 13 with | false => rfl | true => exact absurd (cS h).1 (by simp [hlk])
              cases h14 : L 11 with
              | false => exact HM0.out wr (c0 h14)
              | true => exact HM1.out wr (U 42) (c1 h14 hs).2.1
            rw [hM5] at hM8
            obtain ⟨m7, m8, m9, ma, mb, hl5, hl2, hlL, hlE⟩ := hM8
            have HC : Hid _ := hC
            clear hC
            refine ⟨?_⟩
            go_simp
            refine hK _ _ rfl ?_
            obtain ⟨c0, cB, c1, cS⟩ := HC.out
            refine ⟨fun h => c0 (by simpa using h), (fun h1 h2 => by have h9 := cB (by simpa using h1) (by simpa using h2); simpa [updO, Go.Proofs.Ytlonnhnfmcndfac.upd] using h9), (fun h1 h2 => by have h9 := c1 (by simpa using h1) (by simpa using h2); simpa [updO, Go.Proofs.Ytlonnhnfmcndfac.upd] using h9), fun h => ?_⟩
            have h9 := cS (by simpa using h)
            exact ⟨by simp [h9.1], h9.2⟩
          refine StepsE.run rfl ?_ ?_
          · intro L U wr hC hP hlk hcl haf A K hFm hK
            simp [Aft, Region.binds] at haf
            have g9 : U 40 = (.agg #[.int .i64 (xa : Nat), .int .i64 (xb : Nat)]) := hP 9 40 (by simp [haf]) rfl
            have e40 : A.tmps[40]? = some (.agg #[.int .i64 (xa : Nat), .int .i64 (xb : Nat)]) := hFm.is 9 40 rfl g9
            have hA9 : L 11 = false := by cases h : L 11 with | false => rfl | true => have h9 := hcl 11 _ rfl h; simp [Aft, Region.binds, hlk] at h9
            refine ⟨?_⟩
            go_simp
            refine hK _ _ trivial ⟨fun h => ?_, fun _ _ => ?_, fun h1 h2 => ?_, fun h => ?_⟩
            · exact ((hC.1 hA9).alloc (hC.1 hA9).size _)
            · exact ⟨wr.heap.size, rfl, heap_alloc_new wr _⟩
            · simp [hA9] at h1
            · have h9 := (hC.2.2.2 (by simpa using h)).1
              simp [hlk] at h9
          refine StepsE.run rfl ?_ ?_
          · intro L U wr hC hP hlk hcl haf A K hFm hK
            simp [Aft, Region.binds] at haf
            have g1 : U 32 = (v) := hP 1 32 (by simp [haf]) rfl
            have e32 : A.tmps[32]? = some (v) := hFm.is 1 32 rfl g1
            have e41 : A.tmps[41]? = some (U 41) := hFm.got 10 41 rfl
            have l10 : L 10 = true := by simp [haf]
            refine ⟨?_⟩
            refine wp_push1 (.tmp 32) (.tmp 41) 26 rfl 2 59 _ 16 uPairs iPair (by decide) rfl (by decide) (v) (i) (fun q => eqP d.f (lf q)) (by simp [Act.eval, e32]) (HOWN.out wr (hC.1 hlk)) (fun _ _ => rfl) [.int .i64 (xa : Nat), .int .i64 (xb : Nat)] 59 (U 41) (hC.2.1 l10 hlk) (by simp [Act.eval, e41]) rfl (by intro u hu; simp at hu; rcases hu with rfl | rfl <;> rfl) HNB.out (fun q => eqP d.f (lf q)) (fun _ _ => rfl) HXX.out ?_
            intro v9 w9 hol9 hap9 hne9
            refine hK _ _ trivial ⟨fun h => ?_, fun _ h => ?_, fun _ _ => ?_, fun h => ?_⟩
            · simp at h
            · simp at h
            · simp only [updO, Go.Proofs.Ytlonnhnfmcndfac.upd, beq_self_eq_true, cond_true]; exact ⟨hol9, hap9.ofBelow (hC.1 hlk), hne9⟩
            · have h9 := (hC.2.2.2 (by simpa using h)).1
              simp [hlk] at h9
          refine StepsE.run rfl ?_ ?_
          · intro L U wr hC hP hlk hcl haf A K hFm hK
            simp [Aft, Region.binds] at haf
            have e5 : A.tmps[5]? = some (.pointer (some ⟨b5, 0, none⟩)) := (hFm.old 5 (by decide)).trans (by kernel_rfl)
            have hM8 : M5 wr := by
              obtain ⟨c0, cB, c1, cS⟩ := hC
              have hs : L 13 = false := by cases h : L 13 with | false => rfl | true => exact absurd (cS h).1 (by simp [hlk])
              cases h14 : L 11 with
              | false => exact HM0.out wr (c0 h14)
              | true => exact HM1.out wr (U 42) (c1 h14 hs).2.1
            rw [hM5] at hM8
            obtain ⟨m7, m8, m9, ma, mb, hl5, hl2, hlL, hlE⟩ := hM8
            have HC : Hid _ := hC
            clear hC
            refine ⟨?_⟩
            go_simp
            refine hK _ _ rfl ?_
            obtain ⟨c0, cB, c1, cS⟩ := HC.out
            refine ⟨fun h => c0 (by simpa using h), (fun h1 h2 => by have h9 := cB (by simpa using h1) (by simpa using h2); simpa [updO, Go.Proofs.Ytlonnhnfmcndfac.upd] using h9), (fun h1 h2 => by have h9 := c1 (by simpa using h1) (by simpa using h2); simpa [updO, Go.Proofs.Ytlonnhnfmcndfac.upd] using h9), fun h => ?_⟩
            have h9 := cS (by simpa using h)
            exact ⟨by simp [h9.1], h9.2⟩
          refine StepsE.run rfl ?_ StepsE.nil
          · intro L U wr hC hP hlk hcl haf A K hFm hK
            simp [Aft, Region.binds] at haf
            have g12 : U 43 = (.pointer (some ⟨b5, 1, none⟩)) := hP 12 43 (by simp [haf]) rfl
            have e43 : A.tmps[43]? = some (.pointer (some ⟨b5, 1, none⟩)) := hFm.is 12 43 rfl g12
            have e42 : A.tmps[42]? = some (U 42) := hFm.got 11 42 rfl
            have l12 : L 12 = true := by simp [haf]
            have l11 : L 11 = true := by simp [haf]
            have a11 := hcl 11 _ rfl l11
            simp [Aft, Region.binds] at a11
            have l1 : L 1 = true := by simp [a11]
            have l10 : L 10 = true := by simp [a11]
            have a1 := hcl 1 _ rfl l1
            simp [Aft, Region.binds] at a1
            have l0 : L 0 = true := by simp [a1]
            have a10 := hcl 10 _ rfl l10
            simp [Aft, Region.binds] at a10
            have l9 : L 9 = true := by simp [a10]
            have a9 := hcl 9 _ rfl l9
            simp [Aft, Region.binds] at a9
            have l8 : L 8 = true := by simp [a9]
            have a8 := hcl 8 _ rfl l8
            simp [Aft, Region.binds] at a8
            have l3 : L 3 = true := by simp [a8]
            have l7 : L 7 = true := by simp [a8]
            have a3 := hcl 3 _ rfl l3
            simp [Aft, Region.binds] at a3
            have l2 : L 2 = true := by simp [a3]
            have a7 := hcl 7 _ rfl l7
            simp [Aft, Region.binds] at a7
            have l6 : L 6 = true := by simp [a7]
            have a6 := hcl 6 _ rfl l6
            simp [Aft, Region.binds] at a6
            have l4 : L 4 = true := by simp [a6]
            have l5 : L 5 = true := by simp [a6]
            refine ⟨?_⟩
            obtain ⟨hol9, hap9, hne9⟩ := hC.2.2.1 l11 hlk
            have HKK : Hid _ := HSET.out wr (U 42) hol9 hap9 hne9
            obtain ⟨k4, k5⟩ := HFZ.out wr (U 42) hap9
            obtain ⟨ao9, cc9, hv9, -, -, -, -⟩ := hol9.shape
            obtain ⟨nl, hnl⟩ : ∃ nl, nl = i + 1 := ⟨_, rfl⟩
            rw [← hnl] at hv9
            clear hnl
            have e42 : A.tmps[42]? = some (.slice ao9 nl cc9) := hFm.is 11 42 rfl hv9
            rw [hv9] at HKK
            clear hol9 hap9 hne9 hC
            go_simp
            refine hK (.tuple #[]) _ trivial ⟨fun h => ?_, fun h1 h2 => ?_, fun h1 h2 => ?_, fun _ => ⟨?_, HKK.out⟩⟩
            · simp [l11] at h
            · simp [l11] at h2
            · simp at h2
            · simp [l0, l1, l2, l3, l4, l5, l6, l7, l8, l9, l10, l11, l12]
        intro L U5 V5 hall hC hP
        have hE := (hC.2.2.2 (hall 13 (by decide))).2
        rw [hE5] at hE
        clear hC hP hall hE5 hM5 HM0 HM1 HFZ HOWN HSET HOm HXX HNB
        obtain ⟨v9, hE9⟩ := hE
        have HE9 : Hid _ := hE9
        clear hE9
        simp only [setM_some, setM_none, setM_nil]
        go_wp2
        go_roundw
        case rel => exact ⟨i + 1, v9, by go_num, by omega, HE9.out⟩
        case measure => simp [intOf]; omega
    · have hltI : ¬ ((i : Int) < (n : Int)) := by omega
      obtain rfl : i = n := by omega
      obtain ⟨aO, cO, hv, -, -, -, -⟩ := HO.out.own.shape
      subst hv
      have HE : Hid (OL 2 59 ((wl.setCell ⟨b4, 0, none⟩ (.slice aN d.t.nn cN)).setCell ⟨b4, 1, none⟩ (.slice aO i cO)) (.slice aO i cO) i (fun q => eqP d.f (lf q)) ∧ (∀ b, (Value.slice aO i cO).ownBlock = some b → w.heap.size ≤ b) ∧ Below w.heap.size w ((wl.setCell ⟨b4, 0, none⟩ (.slice aN d.t.nn cN)).setCell ⟨b4, 1, none⟩ (.slice aO i cO))) := by
        refine ⟨HO.out.own.stay (fun b hb => ?_), HO.out.ob, below_store2 HO.out.bel HO.out.ne.2.2.2.2.1 _ _⟩
        have hne : b ≠ b4 := fun e => HO.out.own.neB HO.out.x4 (by decide) (by rw [hb, e])
        rw [heap_setCell_other _ ⟨b4, 1, none⟩ b _ hne, heap_setCell_other _ ⟨b4, 0, none⟩ b _ hne]
      have k4 : Blk 28 ((wl.setCell ⟨b4, 0, none⟩ (.slice aN d.t.nn cN)).setCell ⟨b4, 1, none⟩ (.slice aO i cO)) b4 #[.slice aN d.t.nn cN, .slice aO i cO] := by
        have := (Blk.set HO.out.x4 0 (.slice aN d.t.nn cN)).set 1 (.slice aO i cO)
        simpa using this
      obtain ⟨r0, r1, -, -⟩ := k4.two
      clear HO k4
      go_wp2
      refine bodyPost_ret (v := .agg #[.slice aN d.t.nn cN, .slice aO i cO]) (by simp [results, Try.results19, go_sem, r0, r1]) rfl ?_
      exact ⟨aO, cO, rfl, HE.out⟩
end Euf
end Go.Proofs.Ytlonnhnfmcndfac
