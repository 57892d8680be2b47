/- The document's closing of equations; no statement of the seat is proved here. -/
import Derived.Test.YtmnpefiaelpkfacEufLiJClasses
import Derived.Test.YtmnpefiaelpkfacJoin4Classes
import Derived.Test.YtmnpefiaelpkfacJoin8Classes
import Derived.Test.YtmnpefiaelpkfacEufT2JClasses
import Derived.Test.YtmnpefiaelpkfacReg6JClasses
import Derived.Deep.DeepCutAuto
namespace Go.Proofs.Ytmnpefiaelpkfac
open Go.RowKit
set_option linter.unusedVariables false
namespace Euf
/-- The list of classes, and the graph in its box. -/
structure KW (w wr : World) (b1 bC nn cap : Nat) (vN vE : Value) (c : Nat → Nat) : Prop where
  ci : CI wr bC nn cap c
  box : Blk 28 wr b1 #[vN, vE]
  ne : b1 ≠ bC ∧ w.heap.size ≤ b1 ∧ w.heap.size ≤ bC
  bel : Below w.heap.size w wr
section
variable {w wr w' : World} {b1 bC nn cap : Nat} {vN vE : Value} {c c' : Nat → Nat}
theorem KW.below (h : KW w wr b1 bC nn cap vN vE c) (hb : Below wr.heap.size wr w') : KW w w' b1 bC nn cap vN vE c := { h with ci := h.ci.stay (fun b hb' => hb.block b (h.ci.lt hb')), box := h.box.stay hb, bel := h.bel.trans (hb.mono h.bel.size) }
theorem KW.mv (h : KW w wr b1 bC nn cap vN vE c) (hM : Mv (OneB bC) wr w') (hc : CI w' bC nn cap c') : KW w w' b1 bC nn cap vN vE c' :=
  { ci := hc, box := (hM.other b1 h.box.lt (fun e => h.ne.1 e)).trans h.box, ne := h.ne, bel := h.bel.trans (hM.toBelow h.bel.size (fun b hb => by have : b = bC := hb; rw [this]; exact h.ne.2.2)) }
end
def initC (i j : Nat) : Nat := if j < i then j else 0
def EqC (f : Fx) (c : Nat → Nat) (k : Nat) : Prop := ∀ q, q < k → c (f.E q).1 = c (f.E q).2.1
theorem EqC.join {f : Fx} {c : Nat → Nat} {k : Nat} (h : EqC f c k) (a b : Nat) : EqC f (joinC c a b) k := fun q hq => joinC_coarse c a b _ _ (h q hq)
/-- How far the search for nodes that are alike has come: c0 at the round's beginning, c now. -/
structure Rnd (d : Gd) (c0 c : Nat → Nat) (more : Bool) (done : Nat → Nat → Prop) : Prop where
  ok : COk d.t.nn d.t.N (EqOf d.f) c
  eq : EqC d.f c d.f.ne
  le : total (isRepC c) d.t.nn ≤ total (isRepC c0) d.t.nn
  yes : more = true → total (isRepC c) d.t.nn < total (isRepC c0) d.t.nn
  no : more = false → c = c0 ∧ ∀ i k, done i k → LikeC d.t.N c0 i k → c0 i = c0 k
theorem Rnd.join {d : Gd} {c0 c : Nat → Nat} {more : Bool} {done : Nat → Nat → Prop} (h : Rnd d c0 c more done) {i k : Nat} (hi : i < d.t.nn) (hk : k < d.t.nn) (hin : ∀ a, a < d.t.nn → ∀ b ∈ (d.t.N a).2, b < d.t.nn) (hl : LikeC d.t.N c i k) (hne : c i ≠ c k) (done' : Nat → Nat → Prop) : Rnd d c0 (joinC c i k) true done' := by
  have hr := repsC_join h.ok hi hk hne
  have := h.le
  exact ⟨h.ok.join hi hk (hl.cong h.ok hi hk hin), h.eq.join i k, by omega, fun _ => by omega, fun e => by cases e⟩
theorem Rnd.skip {d : Gd} {c0 c : Nat → Nat} {more : Bool} {done done' : Nat → Nat → Prop} (h : Rnd d c0 c more done) (hd : ∀ i k, done' i k → done i k ∨ (LikeC d.t.N c i k → c i = c k)) : Rnd d c0 c more done' := by
  refine { h with no := fun e => ?_ }
  obtain ⟨h1, h2⟩ := h.no e
  refine ⟨h1, fun i k hik hl => ?_⟩
  rcases hd i k hik with h9 | h9
  · exact h2 i k h9 hl
  · rw [h1] at h9; exact h9 hl
/-- The document's graph by itself. -/
structure DG (d : Gd) : Prop where
  eqs : ∀ k, k < d.f.ne → (d.f.E k).1 < d.t.nn ∧ (d.f.E k).2.1 < d.t.nn
  inj : ∀ a b, a < d.t.nn → b < d.t.nn → d.t.N a = d.t.N b → a = b
  args : ∀ a, a < d.t.nn → ∀ b ∈ (d.t.N a).2, b < d.t.nn
theorem GSem.dg {d : Gd} (h : GSem d) : DG d := ⟨fun k hk => by have hl := h.ok.f.eqs k hk; rw [h.ok.t.nw] at hl; exact ⟨hl.1, hl.2.1⟩, fun a b ha hb e => h.ok.t.Ninj ha hb e, fun a ha b hb => by have := h.ok.t.args a ha b hb; omega⟩
theorem eqOf_c {d : Gd} {c : Nat → Nat} (h : EqC d.f c d.f.ne) : ∀ a b, EqOf d.f a b → c a = c b := by
  rintro a b ⟨q, hq, rfl, rfl⟩
  exact h q hq

set_option maxRecDepth 20000 in
set_option maxHeartbeats 16000000 in
theorem Closed_core (d : Gd) (aN aE : Option Addr) (cN cE : Nat) (rg : Nat → Value) (w : World) (hr : RG w (.slice aN d.t.nn cN) (.slice aE d.f.ne cE) rg d) (hs : DG d) (hn : d.t.nn ≤ 60) (he : d.f.ne ≤ 60) (hal : ∀ a, a < d.t.nn → (d.t.N a).2.length ≤ 20) :
    Calls Try.prog 6 #[.agg #[.slice aN d.t.nn cN, .slice aE d.f.ne cE]] w fun e w' => ∃ (bC : Nat) (c : Nat → Nat), e = .returned (.slice (some ⟨bC, 0, none⟩) d.t.nn d.t.nn) ∧ CI w' bC d.t.nn d.t.nn c ∧ w.heap.size ≤ bC ∧ Below w.heap.size w w' ∧ ∀ i, i < d.t.nn → Least d.t.nn d.t.N (EqOf d.f) i (c i) := by
  have HR : Hid (RG w (.slice aN d.t.nn cN) (.slice aE d.f.ne cE) rg d) := hr
  have HS : Hid (DG d ∧ (∀ a, a < d.t.nn → (d.t.N a).2.length ≤ 20) ∧ (∀ a, a < d.t.nn → ∀ b ∈ (d.t.N a).2, b < d.t.nn)) := ⟨hs, hal, hs.args⟩
  clear hr hs hal
  have hnI : (d.t.nn : Int) ≤ 60 := by omega
  go_enter Try.func6, Try.ntmps6
  go_wp2_with (at_make; refine wpList_make_nums _ rfl _ _ 31 rfl 3 .i64 8 uInts iInt _ _ _ _ d.t.nn rfl rfl rfl rfl (by decide) (by omega) ?_; intro w1 hr1 hb1 hz1)
  have hs1 : (w.alloc (.cells #[.slice aN d.t.nn cN, .slice aE d.f.ne cE] 28)).heap.size = w.heap.size + 1 := by simp
  rw [hs1] at hr1 hb1 hz1
  have hKW : KW w w1 w.heap.size (w.heap.size + 1) d.t.nn d.t.nn (.slice aN d.t.nn cN) (.slice aE d.f.ne cE) (initC 0) := by
    have hba : Below w.heap.size w (w.alloc (.cells #[.slice aN d.t.nn cN, .slice aE d.f.ne cE] 28)) := by go_grown
    refine { ci := ?_, box := ?_, ne := ⟨by omega, Nat.le_refl _, by omega⟩, bel := hba.trans (hb1.mono (by omega)) }
    · refine (row_ol hr1 (by simp) (by omega)).congr fun i hi => ?_
      unfold natC initC
      rw [if_neg (Nat.not_lt_zero _), List.getD_eq_getElem?_getD, List.getElem?_replicate, if_pos hi]
      rfl
    · exact (hb1.block w.heap.size (by omega)).trans (heap_alloc_new w _)
  have HKW : Hid _ := hKW
  obtain ⟨b1, hb⟩ : ∃ b1, b1 = w.heap.size := ⟨_, rfl⟩
  obtain ⟨bC, hc⟩ : ∃ bC, bC = w.heap.size + 1 := ⟨_, rfl⟩
  rw [← hc, ← hb] at HKW
  rw [← hc, ← hb]
  clear hKW hr1 hb1 hz1 hs1 hb hc
  go_loopw [4] (fun v4 wr => ∃ (i : Nat), v4 = .int .i64 (i : Nat) ∧ i ≤ d.t.nn ∧ Hid (KW w wr b1 bC d.t.nn d.t.nn (.slice aN d.t.nn cN) (.slice aE d.f.ne cE) (initC i))) (fun v _ => d.t.nn - (intOf v).toNat)
  case atStart => exact ⟨0, rfl, Nat.zero_le _, HKW.out⟩
  case round =>
    rename World => wl
    clear HKW
    obtain ⟨i, rfl, hi, HK⟩ := hrel
    by_cases hlt : i < d.t.nn
    · have hltI : (i : Int) < (d.t.nn : Int) := by omega
      have l0 := HK.out.ci.cell (i := i) hlt (j := 0) (by omega)
      have hfz := HK.out.ci.frozen i
      have hbC : bC < wl.heap.size := HK.out.ci.lt rfl
      simp only [Nat.add_zero, Nat.mul_one, List.getElem?_cons_zero] at l0
      have HN : Hid (KW w (wl.setCell ⟨bC, i, none⟩ (.int .i64 (i : Nat))) b1 bC d.t.nn d.t.nn (.slice aN d.t.nn cN) (.slice aE d.f.ne cE) (initC (i + 1))) := by
        refine HK.out.mv ((Mv.refl (OneB bC) wl).set (a := ⟨bC, i, none⟩) (Or.inl rfl) _) ?_
        have := HK.out.ci.set (i := i) (j := 0) hlt (by omega) (.int .i64 (i : Nat)) (f' := fun k => [.int .i64 (initC (i + 1) k : Nat)]) (fun _ _ => rfl) (by unfold initC; rw [if_pos (by omega)]; rfl) (fun k _ hk => by
          have : initC (i + 1) k = initC i k := by
            unfold initC
            by_cases e : k < i
            · rw [if_pos e, if_pos (by omega)]
            · rw [if_neg e, if_neg (by omega)]
          rw [this])
        simpa using this
      clear HK
      go_wp2
      go_roundw
      case rel => exact ⟨i + 1, by go_num, by omega, HN.out⟩
      case measure => simp [intOf]; omega
    · have hltI : ¬ ((i : Int) < (d.t.nn : Int)) := by omega
      obtain rfl : i = d.t.nn := by omega
      have HK2 : Hid (KW w wl b1 bC d.t.nn d.t.nn (.slice aN d.t.nn cN) (.slice aE d.f.ne cE) (fun j => j)) := { HK.out with ci := HK.out.ci.congr fun j hj => by unfold initC; rw [if_pos hj] }
      clear HK hi
      go_wp2
      go_loopw [5] (fun v5 wr => ∃ (k : Nat) (c : Nat → Nat), v5 = .int .i64 (k : Nat) ∧ k ≤ d.f.ne ∧ Hid (KW w wr b1 bC d.t.nn d.t.nn (.slice aN d.t.nn cN) (.slice aE d.f.ne cE) c ∧ COk d.t.nn d.t.N (EqOf d.f) c ∧ EqC d.f c k)) (fun v _ => d.f.ne - (intOf v).toNat)
      case atStart => exact ⟨0, fun j => j, rfl, Nat.zero_le _, HK2.out, COk.start _ _ _, fun q hq => absurd hq (Nat.not_lt_zero _)⟩
      case round =>
        rename World => wm
        clear HK2
        obtain ⟨k, c, rfl, hk, HK⟩ := hrel
        obtain ⟨x0, x1, -, -⟩ := HK.out.1.box.two
        have hlb := HK.out.1.box.lt
        by_cases hlk : k < d.f.ne
        · have hlkI : (k : Int) < (d.f.ne : Int) := by omega
          obtain ⟨bE, cE', hvE, -, -⟩ := HR.out.eqs.open k hlk
          injection hvE with hvE e2 e3
          clear e2
          subst hvE e3
          have n0 := HR.out.eqs.cell (i := k) hlk (j := 0) (by omega)
          have n1 := HR.out.eqs.cell (i := k) hlk (j := 1) (by omega)
          simp only [eqP, Nat.add_zero, List.getElem?_cons_zero, List.getElem?_cons_succ] at n0 n1
          have hbE : bE < w.heap.size := HR.out.eqs.lt rfl
          replace n0 := (HK.out.1.bel.cell (p := ⟨bE, k * 2, none⟩) hbE).trans n0
          replace n1 := (HK.out.1.bel.cell (p := ⟨bE, k * 2 + 1, none⟩) hbE).trans n1
          replace hbE : bE < wm.heap.size := Nat.lt_of_lt_of_le hbE HK.out.1.bel.size
          have HJN : Hid (∀ wq, Below wm.heap.size wm wq → Calls Try.prog 15 #[.slice (some ⟨bC, 0, none⟩) d.t.nn d.t.nn, .int .i64 ((d.f.E k).1 : Nat), .int .i64 ((d.f.E k).2.1 : Nat)] wq fun e w' => ∃ v, e = .returned v ∧ Hid (∃ c', KW w w' b1 bC d.t.nn d.t.nn (.slice aN d.t.nn cN) (.slice (some ⟨bE, 0, none⟩) d.f.ne cE) c' ∧ COk d.t.nn d.t.N (EqOf d.f) c' ∧ EqC d.f c' (k + 1))) := by
            intro wq hq
            have hKq := HK.out.1.below hq
            have hl := HS.out.1.eqs k hlk
            refine (rjoin_any bC d.t.nn d.t.nn c _ _ wq hKq.ci hl.1 hl.2 (by omega)).mono ?_
            rintro e w' ⟨rfl, k1, k2⟩
            refine ⟨_, rfl, ⟨_, hKq.mv k2 k1, HK.out.2.1.join hl.1 hl.2 (.eq ⟨k, hlk, rfl, rfl⟩), fun q hq => ?_⟩⟩
            by_cases e : q = k
            · subst e; exact joinC_same c _ _
            · exact joinC_coarse c _ _ _ _ (HK.out.2.2 q (by omega))
          clear HK
          generalize (d.f.E k).1 = xa at n0 HJN
          generalize (d.f.E k).2.1 = xb at n1 HJN
          go_wp2
          go_region_with (go_at_call 15; refine (HJN.out _ ?_).mono ?_; go_grown; rintro e w7 ⟨v7, rfl, H7⟩)
          all_goals
            obtain ⟨c7, h7⟩ := H7.out
            have H8 : Hid _ := h7
            clear h7 H7 n0 n1 hlb hbE HJN x0 x1
            go_wp2
            go_roundw
            case rel => exact ⟨k + 1, c7, by go_num, by omega, H8.out⟩
            case measure => simp [intOf]; omega
        · have hlkI : ¬ ((k : Int) < (d.f.ne : Int)) := by omega
          obtain rfl : k = d.f.ne := by omega
          clear hk
          go_wp2
          clear x0 x1 hlb
          go_loopg [6] (total (isRepC c) d.t.nn + 1) (fun gk v6 wr => ∃ (more : Bool) (c : Nat → Nat), v6 = .bool more ∧ Hid (KW w wr b1 bC d.t.nn d.t.nn (.slice aN d.t.nn cN) (.slice aE d.f.ne cE) c ∧ COk d.t.nn d.t.N (EqOf d.f) c ∧ EqC d.f c d.f.ne ∧ (more = false → ∀ i k, i < d.t.nn → k < i → LikeC d.t.N c i k → c i = c k) ∧ gk = (if more = true then total (isRepC c) d.t.nn + 1 else 0)))
          case atStart => exact ⟨true, c, rfl, HK.out.1, HK.out.2.1, HK.out.2.2, (fun e => by cases e), rfl⟩
          case round =>
            clear HK
            obtain ⟨more, c0, rfl, HK⟩ := hrel
            cases more with
            | false =>
              have HE : Hid (CI wr bC d.t.nn d.t.nn c0 ∧ w.heap.size ≤ bC ∧ Below w.heap.size w wr ∧ ∀ i, i < d.t.nn → Least d.t.nn d.t.N (EqOf d.f) i (c0 i)) := ⟨HK.out.1.ci, HK.out.1.ne.2.2, HK.out.1.bel, fun i hi => closed_least HK.out.2.1 (eqOf_c HK.out.2.2.1) (HK.out.2.2.2.1 rfl) HS.out.1.inj hi⟩
              clear HK
              go_wp2
              go_ret
              exact ⟨bC, c0, rfl, HE.out⟩
            | true =>
              have HG : Hid (gk = total (isRepC c0) d.t.nn + 1) := HK.out.2.2.2.2
              go_wp2
              go_loopw [6, 7] (fun v6 v7 wr => ∃ (more : Bool) (i : Nat) (c : Nat → Nat), v6 = .bool more ∧ v7 = .int .i64 (i : Nat) ∧ i ≤ d.t.nn ∧ Hid (KW w wr b1 bC d.t.nn d.t.nn (.slice aN d.t.nn cN) (.slice aE d.f.ne cE) c ∧ Rnd d c0 c more (fun a b => a < i ∧ b < a))) (fun _ v _ => d.t.nn - (intOf v).toNat)
              case atStart => exact ⟨false, 0, c0, rfl, rfl, Nat.zero_le _, HK.out.1, ⟨HK.out.2.1, HK.out.2.2.1, Nat.le_refl _, (fun e => by cases e), fun _ => ⟨rfl, fun a b h => absurd h.1 (Nat.not_lt_zero _)⟩⟩⟩
              case round =>
                rename World => wl
                clear HK
                obtain ⟨more, i, c, rfl, rfl, hi, HJ⟩ := hrel
                obtain ⟨x0, x1, -, -⟩ := HJ.out.1.box.two
                have hlb := HJ.out.1.box.lt
                by_cases hlt : i < d.t.nn
                · have hltI : (i : Int) < (d.t.nn : Int) := by omega
                  go_wp2
                  clear x0 x1 hlb
                  go_loopw [6, 8] (fun v6 v8 wr => ∃ (more : Bool) (k : Nat) (c : Nat → Nat), v6 = .bool more ∧ v8 = .int .i64 (k : Nat) ∧ k ≤ i ∧ Hid (KW w wr b1 bC d.t.nn d.t.nn (.slice aN d.t.nn cN) (.slice aE d.f.ne cE) c ∧ Rnd d c0 c more (fun a b => (a < i ∧ b < a) ∨ (a = i ∧ b < k)))) (fun _ v _ => i - (intOf v).toNat)
                  case atStart => exact ⟨more, 0, c, rfl, rfl, Nat.zero_le _, HJ.out.1, HJ.out.2.skip (fun a b h => Or.inl (by omega))⟩
                  case round =>
                    rename World => wm
                    clear HJ
                    obtain ⟨more2, k, c2, rfl, rfl, hk, HL⟩ := hrel
                    by_cases hlk : k < i
                    · have hlkI : (k : Int) < (i : Int) := by omega
                      have hkI : (k : Int) < (d.t.nn : Int) := by omega
                      have HKN : Hid (k < d.t.nn) := by show _ < _; omega
                      have l0 := HL.out.1.ci.cell (i := i) hlt (j := 0) (by omega)
                      have l1 := HL.out.1.ci.cell (i := k) HKN.out (j := 0) (by omega)
                      simp only [Nat.add_zero, Nat.mul_one, List.getElem?_cons_zero] at l0 l1
                      have hbC : bC < wm.heap.size := HL.out.1.ci.lt rfl
                      by_cases hcc : c2 i = c2 k
                      · have HN : Hid (KW w wm b1 bC d.t.nn d.t.nn (.slice aN d.t.nn cN) (.slice aE d.f.ne cE) c2 ∧ Rnd d c0 c2 more2 (fun a b => (a < i ∧ b < a) ∨ (a = i ∧ b < k + 1))) := by
                          refine ⟨HL.out.1, HL.out.2.skip (fun a b h => ?_)⟩
                          by_cases e : a = i ∧ b = k
                          · right; intro _; rw [e.1, e.2]; exact hcc
                          · left; omega
                        rw [hcc] at l0
                        clear HL hcc
                        go_wp2
                        go_quiet (fail)
                        go_wp2
                        go_roundw
                        case rel => exact ⟨more2, k + 1, c2, rfl, by go_num, by omega, HN.out.1.below ⟨rfl, rfl, rfl, Nat.le_refl _, fun _ _ => rfl⟩, HN.out.2⟩
                        case measure => simp [intOf]; omega
                      · obtain ⟨LK, hLK⟩ : ∃ LK, LK = likeC d.t.N c2 i k := ⟨_, rfl⟩
                        obtain ⟨x0, x1, -, -⟩ := HL.out.1.box.two
                        have HLI : Hid (∀ wr, Below wm.heap.size wm wr → Calls Try.prog 16 #[.agg #[.slice aN d.t.nn cN, .slice aE d.f.ne cE], .slice (some ⟨bC, 0, none⟩) d.t.nn d.t.nn, .int .i64 (i : Nat), .int .i64 (k : Nat)] wr fun e w' => e = .returned (.bool LK) ∧ Below wr.heap.size wr w') := by
                          intro wr hb
                          rw [hLK]
                          have hq := HL.out.1.below hb
                          exact like_any d aN cN _ rg bC d.t.nn c2 i k wr (HR.out.keep (fun b hb' => hq.bel.block b (HR.out.lt hb'))) hq.ci hlt HKN.out (by omega) HS.out.2.2 HS.out.2.1
                        have HBL : Hid (bC < wm.heap.size ∧ b1 < wm.heap.size) := ⟨hbC, HL.out.1.box.lt⟩
                        have HM0 : Hid (wm.cell? ⟨b1, 0, none⟩ = some (.slice aN d.t.nn cN)) := x0
                        have HM1 : Hid (wm.cell? ⟨b1, 1, none⟩ = some (.slice aE d.f.ne cE)) := x1
                        have HNL : Hid (LK = likeC d.t.N c2 i k ∧ c2 i ≠ c2 k) := ⟨hLK, hcc⟩
                        obtain ⟨ci, hci⟩ : ∃ ci, ci = c2 i := ⟨_, rfl⟩
                        obtain ⟨ck, hck⟩ : ∃ ck, ck = c2 k := ⟨_, rfl⟩
                        rw [← hci] at l0
                        rw [← hck] at l1
                        have HNE : Hid (¬ ((ci : Int) = (ck : Int))) := by show ¬ _; rw [hci, hck]; omega
                        have HCI : Hid (wm.cell? ⟨bC, i, none⟩ = some (.int .i64 (ci : Nat))) := l0
                        have HCK : Hid (wm.cell? ⟨bC, k, none⟩ = some (.int .i64 (ck : Nat))) := l1
                        clear x0 x1 l0 l1 hbC hLK hcc hci hck
                        go_wp2
                        refine wp_region_E (by kernel_rfl) [some 57, some 58, some 59, some 60, some 61, some 62, some 63, some 64, some 65, some 66, some 67, some 68, some 69, some 70, some 71, some 72] [none, none, none, none, none, none, none, none, none, none, none, none, none, none, none, none, none, none, none, none, none, none, none, none, none, none, none, none, none, none, none, none, none, none, none, none, none, none, none, none, none, none, none, none, none, none, none, none, none, none, none, none, none, none, none, none, none, some 57, some 58, some 59, some 60, some 61, some 62, some 63, some 64, some 65, some 66, some 67, some 68, some 69, some 70, some 71, some 72] (fun U => by kernel_rfl) [fun u => u = (.slice (some ⟨bC, 0, none⟩) d.t.nn d.t.nn), fun u => u = (.int .i64 (i : Nat)), fun u => u = (.pointer (some ⟨bC, i, none⟩)), fun u => u = (.int .i64 (ci : Nat)), fun u => u = (.slice (some ⟨bC, 0, none⟩) d.t.nn d.t.nn), fun u => u = (.int .i64 (k : Nat)), fun u => u = (.pointer (some ⟨bC, k, none⟩)), fun u => u = (.int .i64 (ck : Nat)), fun u => u = (.bool true), fun u => u = (.bool true), fun u => u = (.agg #[.slice aN d.t.nn cN, .slice aE d.f.ne cE]), fun u => u = (.slice (some ⟨bC, 0, none⟩) d.t.nn d.t.nn), fun u => u = (.int .i64 (i : Nat)), fun u => u = (.int .i64 (k : Nat)), fun u => u = (.bool LK), fun u => u = (.bool LK)] (fun L U wr => Below wm.heap.size wm wr) (by kernel_rfl) (by decide) (by kernel_rfl) (by kernel_rfl) ?_ ?_ ?_
                        · exact fun U => (Below.refl _ _).drew
                        · refine StepsE.run rfl ?_ ?_
                          · intro L U wr hC hP hlk hcl haf A K hFm hK
                            simp [Aft, Region.binds] at haf
                            have e3 : A.tmps[3]? = some (.slice (some ⟨bC, 0, none⟩) d.t.nn d.t.nn) := (hFm.old 3 (by decide)).trans (by kernel_rfl)
                            have HC : Hid _ := hC
                            clear hC
                            refine ⟨?_⟩
                            go_simp
                            exact hK _ _ rfl HC.out
                          refine StepsE.run rfl ?_ ?_
                          · intro L U wr hC hP hlk hcl haf A K hFm hK
                            simp [Aft, Region.binds] at haf
                            have e7 : A.tmps[7]? = some (.int .i64 (i : Nat)) := (hFm.old 7 (by decide)).trans (by kernel_rfl)
                            have HC : Hid _ := hC
                            clear hC
                            refine ⟨?_⟩
                            go_simp
                            exact hK _ _ rfl HC.out
                          refine StepsE.run rfl ?_ ?_
                          · intro L U wr hC hP hlk hcl haf A K hFm hK
                            simp [Aft, Region.binds] at haf
                            have g0 : U 57 = (.slice (some ⟨bC, 0, none⟩) d.t.nn d.t.nn) := hP 0 57 (by simp [haf]) rfl
                            have e57 : A.tmps[57]? = some (.slice (some ⟨bC, 0, none⟩) d.t.nn d.t.nn) := hFm.is 0 57 rfl g0
                            have g1 : U 58 = (.int .i64 (i : Nat)) := hP 1 58 (by simp [haf]) rfl
                            have e58 : A.tmps[58]? = some (.int .i64 (i : Nat)) := hFm.is 1 58 rfl g1
                            have HC : Hid _ := hC
                            clear hC
                            refine ⟨?_⟩
                            go_simp
                            exact hK _ _ rfl HC.out
                          refine StepsE.run rfl ?_ ?_
                          · intro L U wr hC hP hlk hcl haf A K hFm hK
                            simp [Aft, Region.binds] at haf
                            have g2 : U 59 = (.pointer (some ⟨bC, i, none⟩)) := hP 2 59 (by simp [haf]) rfl
                            have e59 : A.tmps[59]? = some (.pointer (some ⟨bC, i, none⟩)) := hFm.is 2 59 rfl g2
                            have m7 := (hC.cell (p := ⟨bC, i, none⟩) HBL.out.1).trans HCI.out
                            have HC : Hid _ := hC
                            clear hC
                            refine ⟨?_⟩
                            go_simp
                            exact hK _ _ rfl HC.out
                          refine StepsE.run rfl ?_ ?_
                          · intro L U wr hC hP hlk hcl haf A K hFm hK
                            simp [Aft, Region.binds] at haf
                            have e3 : A.tmps[3]? = some (.slice (some ⟨bC, 0, none⟩) d.t.nn d.t.nn) := (hFm.old 3 (by decide)).trans (by kernel_rfl)
                            have HC : Hid _ := hC
                            clear hC
                            refine ⟨?_⟩
                            go_simp
                            exact hK _ _ rfl HC.out
                          refine StepsE.run rfl ?_ ?_
                          · intro L U wr hC hP hlk hcl haf A K hFm hK
                            simp [Aft, Region.binds] at haf
                            have e8 : A.tmps[8]? = some (.int .i64 (k : Nat)) := (hFm.old 8 (by decide)).trans (by kernel_rfl)
                            have HC : Hid _ := hC
                            clear hC
                            refine ⟨?_⟩
                            go_simp
                            exact hK _ _ rfl HC.out
                          refine StepsE.run rfl ?_ ?_
                          · intro L U wr hC hP hlk hcl haf A K hFm hK
                            simp [Aft, Region.binds] at haf
                            have g4 : U 61 = (.slice (some ⟨bC, 0, none⟩) d.t.nn d.t.nn) := hP 4 61 (by simp [haf]) rfl
                            have e61 : A.tmps[61]? = some (.slice (some ⟨bC, 0, none⟩) d.t.nn d.t.nn) := hFm.is 4 61 rfl g4
                            have g5 : U 62 = (.int .i64 (k : Nat)) := hP 5 62 (by simp [haf]) rfl
                            have e62 : A.tmps[62]? = some (.int .i64 (k : Nat)) := hFm.is 5 62 rfl g5
                            have HC : Hid _ := hC
                            clear hC
                            refine ⟨?_⟩
                            go_simp
                            exact hK _ _ rfl HC.out
                          refine StepsE.run rfl ?_ ?_
                          · intro L U wr hC hP hlk hcl haf A K hFm hK
                            simp [Aft, Region.binds] at haf
                            have g6 : U 63 = (.pointer (some ⟨bC, k, none⟩)) := hP 6 63 (by simp [haf]) rfl
                            have e63 : A.tmps[63]? = some (.pointer (some ⟨bC, k, none⟩)) := hFm.is 6 63 rfl g6
                            have m7 := (hC.cell (p := ⟨bC, k, none⟩) HBL.out.1).trans HCK.out
                            have HC : Hid _ := hC
                            clear hC
                            refine ⟨?_⟩
                            go_simp
                            exact hK _ _ rfl HC.out
                          refine StepsE.run rfl ?_ ?_
                          · intro L U wr hC hP hlk hcl haf A K hFm hK
                            simp [Aft, Region.binds] at haf
                            have g3 : U 60 = (.int .i64 (ci : Nat)) := hP 3 60 (by simp [haf]) rfl
                            have e60 : A.tmps[60]? = some (.int .i64 (ci : Nat)) := hFm.is 3 60 rfl g3
                            have g7 : U 64 = (.int .i64 (ck : Nat)) := hP 7 64 (by simp [haf]) rfl
                            have e64 : A.tmps[64]? = some (.int .i64 (ck : Nat)) := hFm.is 7 64 rfl g7
                            have hneC : ((ci : Int) != (ck : Int)) = true := by have := HNE.out; simpa using this
                            have HC : Hid _ := hC
                            clear hC
                            refine ⟨?_⟩
                            go_simp
                            exact hK _ _ rfl HC.out
                          refine StepsE.run rfl ?_ ?_
                          · intro L U wr hC hP hlk hcl haf A K hFm hK
                            simp [Aft, Region.binds] at haf
                            have g8 : U 65 = (.bool true) := hP 8 65 (by simp [haf]) rfl
                            have e65 : A.tmps[65]? = some (.bool true) := hFm.is 8 65 rfl g8
                            have HC : Hid _ := hC
                            clear hC
                            refine ⟨?_⟩
                            go_simp
                            exact hK _ _ rfl HC.out
                          refine StepsE.runG 9 66 true rfl rfl rfl (fun L h => by simp [Aft, Region.binds] at h; simp [h]) (fun u h => h) ?_ ?_
                          · intro L U wr hC hP hlk hcl haf A K hFm hK
                            simp [Aft, Region.binds] at haf
                            have e1 : A.tmps[1]? = some (.pointer (some ⟨b1, 0, none⟩)) := (hFm.old 1 (by decide)).trans (by kernel_rfl)
                            have m70 := (hC.cell (p := ⟨b1, 0, none⟩) HBL.out.2).trans HM0.out
                            have m71 := (hC.cell (p := ⟨b1, 1, none⟩) HBL.out.2).trans HM1.out
                            have HC : Hid _ := hC
                            clear hC
                            refine ⟨?_⟩
                            go_simp
                            exact hK _ _ rfl HC.out
                          refine StepsE.runG 9 66 true rfl rfl rfl (fun L h => by simp [Aft, Region.binds] at h; simp [h]) (fun u h => h) ?_ ?_
                          · intro L U wr hC hP hlk hcl haf A K hFm hK
                            simp [Aft, Region.binds] at haf
                            have e3 : A.tmps[3]? = some (.slice (some ⟨bC, 0, none⟩) d.t.nn d.t.nn) := (hFm.old 3 (by decide)).trans (by kernel_rfl)
                            have HC : Hid _ := hC
                            clear hC
                            refine ⟨?_⟩
                            go_simp
                            exact hK _ _ rfl HC.out
                          refine StepsE.runG 9 66 true rfl rfl rfl (fun L h => by simp [Aft, Region.binds] at h; simp [h]) (fun u h => h) ?_ ?_
                          · intro L U wr hC hP hlk hcl haf A K hFm hK
                            simp [Aft, Region.binds] at haf
                            have e7 : A.tmps[7]? = some (.int .i64 (i : Nat)) := (hFm.old 7 (by decide)).trans (by kernel_rfl)
                            have HC : Hid _ := hC
                            clear hC
                            refine ⟨?_⟩
                            go_simp
                            exact hK _ _ rfl HC.out
                          refine StepsE.runG 9 66 true rfl rfl rfl (fun L h => by simp [Aft, Region.binds] at h; simp [h]) (fun u h => h) ?_ ?_
                          · intro L U wr hC hP hlk hcl haf A K hFm hK
                            simp [Aft, Region.binds] at haf
                            have e8 : A.tmps[8]? = some (.int .i64 (k : Nat)) := (hFm.old 8 (by decide)).trans (by kernel_rfl)
                            have HC : Hid _ := hC
                            clear hC
                            refine ⟨?_⟩
                            go_simp
                            exact hK _ _ rfl HC.out
                          refine StepsE.runG 9 66 true rfl rfl rfl (fun L h => by simp [Aft, Region.binds] at h; simp [h]) (fun u h => h) ?_ ?_
                          · intro L U wr hC hP hlk hcl haf A K hFm hK
                            simp [Aft, Region.binds] at haf
                            have g10 : U 67 = (.agg #[.slice aN d.t.nn cN, .slice aE d.f.ne cE]) := hP 10 67 (by simp [haf]) rfl
                            have e67 : A.tmps[67]? = some (.agg #[.slice aN d.t.nn cN, .slice aE d.f.ne cE]) := hFm.is 10 67 rfl g10
                            have g11 : U 68 = (.slice (some ⟨bC, 0, none⟩) d.t.nn d.t.nn) := hP 11 68 (by simp [haf]) rfl
                            have e68 : A.tmps[68]? = some (.slice (some ⟨bC, 0, none⟩) d.t.nn d.t.nn) := hFm.is 11 68 rfl g11
                            have g12 : U 69 = (.int .i64 (i : Nat)) := hP 12 69 (by simp [haf]) rfl
                            have e69 : A.tmps[69]? = some (.int .i64 (i : Nat)) := hFm.is 12 69 rfl g12
                            have g13 : U 70 = (.int .i64 (k : Nat)) := hP 13 70 (by simp [haf]) rfl
                            have e70 : A.tmps[70]? = some (.int .i64 (k : Nat)) := hFm.is 13 70 rfl g13
                            refine ⟨?_⟩
                            have HB9 : Hid _ := hC
                            clear hC
                            go_simp
                            refine (HLI.out wr HB9.out).mono ?_
                            rintro e w1 ⟨rfl, hb9⟩
                            go_simp
                            exact hK _ _ (rfl) (HB9.out.trans (hb9.mono HB9.out.size))
                          refine StepsE.run rfl ?_ StepsE.nil
                          · intro L U wr hC hP hlk hcl haf A K hFm hK
                            simp [Aft, Region.binds] at haf
                            have g9 : U 66 = (.bool true) := hP 9 66 (by simp [haf]) rfl
                            have e66 : A.tmps[66]? = some (.bool true) := hFm.is 9 66 rfl g9
                            have g14 : U 71 = (.bool LK) := hP 14 71 (by simp [haf]) rfl
                            have e71 : A.tmps[71]? = some (.bool LK) := hFm.is 14 71 rfl g14
                            have HC : Hid _ := hC
                            clear hC
                            refine ⟨?_⟩
                            go_simp
                            exact hK _ _ rfl HC.out
                        intro L U5 V5 hall hC hP
                        have HB5 : Hid (Below wm.heap.size wm V5) := hC
                        have e72 : U5 72 = .bool LK := hP 15 72 rfl
                        simp only [setM_some, setM_none, setM_nil]
                        rw [e72]
                        have HL5 : Hid (KW w V5 b1 bC d.t.nn d.t.nn (.slice aN d.t.nn cN) (.slice aE d.f.ne cE) c2 ∧ Rnd d c0 c2 more2 (fun a b => (a < i ∧ b < a) ∨ (a = i ∧ b < k))) := ⟨HL.out.1.below hC, HL.out.2⟩
                        clear hC hP hall e72 HLI HBL HM0 HM1 HNE HCI HCK HL HB5
                        cases LK with
                        | false =>
                          have HN : Hid (KW w V5 b1 bC d.t.nn d.t.nn (.slice aN d.t.nn cN) (.slice aE d.f.ne cE) c2 ∧ Rnd d c0 c2 more2 (fun a b => (a < i ∧ b < a) ∨ (a = i ∧ b < k + 1))) := by
                            refine ⟨HL5.out.1, HL5.out.2.skip (fun a b h => ?_)⟩
                            by_cases e : a = i ∧ b = k
                            · right; intro hlik; rw [e.1, e.2] at hlik
                              have := (likeC_iff d.t.N c2 i k).2 hlik
                              rw [← HNL.out.1] at this; cases this
                            · left; omega
                          clear HL5
                          go_wp2
                          go_roundw
                          case rel => exact ⟨more2, k + 1, c2, rfl, by go_num, by omega, HN.out⟩
                          case measure => simp [intOf]; omega
                        | true =>
                          have HN : Hid (Rnd d c0 (joinC c2 i k) true (fun a b => (a < i ∧ b < a) ∨ (a = i ∧ b < k + 1))) := HL5.out.2.join hlt HKN.out HS.out.2.2 ((likeC_iff d.t.N c2 i k).1 HNL.out.1.symm) HNL.out.2 _
                          go_wp2_with fail
                          refine (rjoin_any bC d.t.nn d.t.nn c2 i k V5 HL5.out.1.ci hlt HKN.out (by omega)).mono ?_
                          rintro e w7 ⟨rfl, k1, k2⟩
                          have HN2 : Hid (KW w w7 b1 bC d.t.nn d.t.nn (.slice aN d.t.nn cN) (.slice aE d.f.ne cE) (joinC c2 i k)) := HL5.out.1.mv k2 k1
                          clear k1 k2 HL5
                          go_wp2
                          go_roundw
                          case rel => exact ⟨true, k + 1, joinC c2 i k, rfl, by go_num, by omega, HN2.out, HN.out⟩
                          case measure => simp [intOf]; omega
                    · have hlkI : ¬ ((k : Int) < (i : Int)) := by omega
                      obtain rfl : k = i := by omega
                      have HN : Hid (KW w wm b1 bC d.t.nn d.t.nn (.slice aN d.t.nn cN) (.slice aE d.f.ne cE) c2 ∧ Rnd d c0 c2 more2 (fun a b => a < k + 1 ∧ b < a)) := ⟨HL.out.1, HL.out.2.skip (fun a b h => Or.inl (by omega))⟩
                      clear HL
                      go_wp2
                      go_roundw
                      case rel => exact ⟨more2, k + 1, c2, rfl, by go_num, by omega, HN.out⟩
                      case measure => simp [intOf]; omega
                · have hltI : ¬ ((i : Int) < (d.t.nn : Int)) := by omega
                  obtain rfl : i = d.t.nn := by omega
                  go_wp2
                  have HN : Hid (KW w wl b1 bC d.t.nn d.t.nn (.slice aN d.t.nn cN) (.slice aE d.f.ne cE) c ∧ COk d.t.nn d.t.N (EqOf d.f) c ∧ EqC d.f c d.f.ne ∧ (more = false → ∀ i k, i < d.t.nn → k < i → LikeC d.t.N c i k → c i = c k)) := ⟨HJ.out.1, HJ.out.2.ok, HJ.out.2.eq, fun e i k h1 h2 hl => by
                    obtain ⟨q1, q2⟩ := HJ.out.2.no e
                    rw [q1] at hl ⊢
                    exact q2 i k ⟨h1, h2⟩ hl⟩
                  go_roundg (if more = true then total (isRepC c) d.t.nn + 1 else 0)
                  case measure =>
                    have := HG.out
                    have hy := HJ.out.2.yes
                    cases more with
                    | false => simp; omega
                    | true => have := hy rfl; simp; omega
                  case rel => exact ⟨more, c, rfl, HN.out.1, HN.out.2.1, HN.out.2.2.1, HN.out.2.2.2, rfl⟩
theorem Closed_any (d : Gd) (aN aE : Option Addr) (cN cE : Nat) (rg : Nat → Value) (w : World) (hr : RG w (.slice aN d.t.nn cN) (.slice aE d.f.ne cE) rg d) (hs : GSem d) (hn : d.t.nn ≤ 60) (he : d.f.ne ≤ 60) (hal : ∀ a, a < d.t.nn → (d.t.N a).2.length ≤ 20) :
    Calls Try.prog 6 #[.agg #[.slice aN d.t.nn cN, .slice aE d.f.ne cE]] w fun e w' => ∃ (bC : Nat) (c : Nat → Nat), e = .returned (.slice (some ⟨bC, 0, none⟩) d.t.nn d.t.nn) ∧ CI w' bC d.t.nn d.t.nn c ∧ w.heap.size ≤ bC ∧ Below w.heap.size w w' ∧ ∀ i, i < d.t.nn → Least d.t.nn d.t.N (EqOf d.f) i (c i) :=
  Closed_core d aN aE cN cE rg w hr hs.dg hn he hal
end Euf
end Go.Proofs.Ytmnpefiaelpkfac
