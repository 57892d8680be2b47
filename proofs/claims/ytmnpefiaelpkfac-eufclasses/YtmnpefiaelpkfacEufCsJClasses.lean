/- The walk of EufClasses; no statement of the seat is proved here. -/
import Derived.Test.YtmnpefiaelpkfacEufCiJClasses
import Derived.Test.YtmnpefiaelpkfacEufWaJClasses
namespace Go.Proofs.Ytmnpefiaelpkfac
open Go.RowKit Go.Shelf
attribute [local go_sem] Oper.semAt_some
set_option linter.unusedVariables false
namespace Euf
theorem leave_true {w Wr W : World} {b4 b13 : Nat} {tmps : Array Value} (h4 : tmps[4]? = some (.pointer (some ⟨b4, 0, none⟩))) (hD : W.heap[Wr.heap.size]? = some (.deferred (some []))) (hM : Mv (OneB b13) Wr W) (k4 : Blk 4 W b4 #[.bool false]) (hb : Below w.heap.size w Wr) (hb4 : w.heap.size ≤ b4) (hb13 : w.heap.size ≤ b13) (hlt : b4 < Wr.heap.size) :
    bodyPostM Fence.wide 8 Try.prog Try.f3 (fun e w' => e = .returned (.bool true) ∧ Below w.heap.size w w') .ret { tmps := tmps, defers := [{ target := .collected Wr.heap.size, args := #[] }] } (W.setCell ⟨b4, 0, none⟩ (.bool true)) := by
  have hK : (W.setCell ⟨b4, 0, none⟩ (.bool true)).heap[Wr.heap.size]? = some (.deferred (some [])) := (heap_setCell_other W ⟨b4, 0, none⟩ _ _ (by show Wr.heap.size ≠ b4; omega)).trans hD
  have k5 : Blk 4 (W.setCell ⟨b4, 0, none⟩ (.bool true)) b4 #[.bool true] := by
    have h9 := Blk.set k4 0 (.bool true)
    simpa using h9
  have k6 : Blk 4 ((W.setCell ⟨b4, 0, none⟩ (.bool true)).putObj Wr.heap.size (.deferred none)) b4 #[.bool true] := blk_put k5 (by omega) _
  have hc5 := k6.cell 0
  have hB1 : Below w.heap.size w W := hb.trans (hM.toBelow hb.size (fun b hb' => by have e2 : b = b13 := hb'; omega))
  have hB2 : Below w.heap.size w (W.setCell ⟨b4, 0, none⟩ (.bool true)) := hB1.setCell (p := ⟨b4, 0, none⟩) hb4 _
  refine ⟨by simp, .inl ⟨_, _, rfl, run_takeDeferred hK, ?_⟩⟩
  refine ⟨.bool true, ?_, rfl, hB2.trans (belowK_b (w := w) (Nat.le_refl _) _ Wr.heap.size _ _ hb.size hK rfl rfl)⟩
  simp [results, Try.f3, go_sem, h4, hc5]
set_option maxRecDepth 20000 in
set_option maxHeartbeats 16000000 in
theorem eufClasses_by (hplay : PlayLaw) (aS : Option Addr) (cS : Nat) (ops : List OpS) (leave : Int) (w : World) (hS : Scr w aS ops) (hl : ops.length ≤ maxLen) :
    Calls Try.prog 3 #[.slice aS ops.length cS, .int .i64 leave] w fun e w' => e = .returned (.bool true) ∧ Below w.heap.size w w' := by
  have HPL : Hid PlayLaw := hplay
  have HS : Hid (Scr w aS ops ∧ ops.length ≤ maxLen) := ⟨hS, hl⟩
  clear hplay hS hl
  refine (callsIn_wide (n := 8)).1 ?_
  refine callsIn_of_wp_marks Try.func3 rfl trivial ?_
  rw [wpIn_wide]
  simp only [Try.ntmps3, List.size_toArray, List.length_cons, List.length_nil, Nat.reduceAdd, Nat.reduceSub, Array.replicate_succ, Array.replicate_zero, List.push_toArray, List.append_toArray, List.nil_append, List.cons_append]
  go_wp2_with fail
  obtain ⟨W0, hW0⟩ : ∃ W0, W0 = (w.alloc (.cells #[.int .i64 leave] 3 (0, 0))).alloc (.cells #[.bool false] 4 (0, 0)) := ⟨_, rfl⟩
  rw [← hW0]
  have hbW0 : Below w.heap.size w W0 := by rw [hW0]; go_grown
  have k3 : Blk 3 W0 w.heap.size #[.int .i64 leave] := by rw [hW0]; exact (Below.heap_alloc _ _ w.heap.size (by simp)).trans (heap_alloc_new w _)
  have k4 : Blk 4 W0 (w.heap.size + 1) #[.bool false] := by
    have h9 := heap_alloc_new (w.alloc (.cells #[.int .i64 leave] 3 (0, 0))) (.cells #[.bool false] 4 (0, 0))
    rw [show (w.alloc (.cells #[.int .i64 leave] 3 (0, 0))).heap.size = w.heap.size + 1 from by simp] at h9
    rw [hW0]; exact h9
  have hs0 : W0.heap.size = w.heap.size + 2 := by rw [hW0]; simp
  obtain ⟨b3, hb3⟩ : ∃ b3, b3 = w.heap.size := ⟨_, rfl⟩
  obtain ⟨b4, hb4⟩ : ∃ b4, b4 = w.heap.size + 1 := ⟨_, rfl⟩
  rw [← hb4] at k4
  rw [← hb3] at k3
  rw [← hb4, ← hb3]
  refine (awake_by HPL.out W0).mono ?_
  rintro e w1 ⟨rfl, hb1⟩
  have HB1 : Hid (Below w.heap.size w w1) := hbW0.trans (hb1.mono hbW0.size)
  have HK1 : Hid (Blk 3 w1 b3 #[.int .i64 leave] ∧ Blk 4 w1 b4 #[.bool false] ∧ w.heap.size ≤ b3 ∧ w.heap.size ≤ b4 ∧ b3 ≠ b4) := ⟨k3.stay hb1, k4.stay hb1, by omega, by omega, by omega⟩
  clear k3 k4 hbW0 hb1 hs0 hb3 hb4 hW0
  go_wp2_with fail
  refine (HPL.out aS cS ops w1 (HS.out.1.below HB1.out) HS.out.2).mono ?_
  rintro e w2 ⟨g, d, aN, aE, cN, cE, rg, rfl, hP, hA⟩
  have HD : Hid (d.t.nn ≤ 60 ∧ d.f.ne ≤ 60 ∧ GSem d ∧ (∀ i, i < d.t.nn → (d.t.N i).2.length ≤ 20)) := ⟨hP.nn, hP.ne, hP.sem, hP.al⟩
  have hlw := hP.lw
  have hd6 : d.t.nn ≤ 60 := hP.nn
  clear HPL hA hP HS
  obtain ⟨W2, hW2⟩ : ∃ W2, W2 = w2.alloc (.cells #[.slice aN d.t.nn cN, .slice aE d.f.ne cE] 28 (0, 0)) := ⟨_, rfl⟩
  obtain ⟨bW, hbW⟩ : ∃ bW, bW = w2.heap.size := ⟨_, rfl⟩
  rw [← hW2, ← hbW] at hlw
  have HLW : Hid (Lw w1 W2 g d d (.slice aN d.t.nn cN) (.slice aE d.f.ne cE) rg bW (.slice none 0 0) 0 (fun _ => 0)) := hlw
  clear hlw
  go_wp2_with fail
  rw [← hW2, ← hbW]
  clear hW2 hbW
  refine (Closed_any d aN aE cN cE rg W2 HLW.out.r HD.out.2.2.1 HD.out.1 HD.out.2.1 HD.out.2.2.2).mono ?_
  rintro e w5 ⟨bC, c, rfl, hci, hc1, hb5, hlst⟩
  have HL5 : Hid (Lw w1 w5 g d d (.slice aN d.t.nn cN) (.slice aE d.f.ne cE) rg bW (.slice (some ⟨bC, 0, none⟩) d.t.nn d.t.nn) d.t.nn c) := HLW.out.setList hb5 hci hc1
  have HC : Hid (∀ i, i < d.t.nn → Least d.t.nn d.t.N (EqOf d.f) i (c i)) := hlst
  clear hci hc1 hb5 hlst HLW
  obtain ⟨wB, hwB⟩ : ∃ wB, wB = w5.alloc (.cells #[.slice none 0 0] 33 (0, 0)) := ⟨_, rfl⟩
  have hbB : Below w5.heap.size w5 wB := by rw [hwB]; go_grown
  have HLB : Hid (Lw w1 wB g d d (.slice aN d.t.nn cN) (.slice aE d.f.ne cE) rg bW (.slice (some ⟨bC, 0, none⟩) d.t.nn d.t.nn) d.t.nn c) := HL5.out.below hbB
  have k9 : Blk 33 wB w5.heap.size #[.slice none 0 0] := by rw [hwB]; exact heap_alloc_new w5 _
  have HWS : Hid (WS wB wB w5.heap.size c d.t.nn 0 (.slice none 0 0) (fun _ => .slice none 0 0)) := ⟨Mv.refl _ _, k9, LL.nil _ _ _, (by
    rintro b (hb | ⟨k, hk, _⟩)
    · cases hb
    · exact absurd hk (Nat.not_lt_zero _)), k9.lt⟩
  have HN9 : Hid (¬ Fh g d w5.heap.size ∧ w5.heap.size ≠ bW ∧ w5.heap.size ≠ bC ∧ w1.heap.size ≤ w5.heap.size ∧ ∀ b, Fh g d b → b < wB.heap.size) := ⟨fun hf => by have := HL5.out.gw.hlt hf; omega, fun e => by have := HL5.out.bw.lt; omega, fun e => by have := HL5.out.list.lt (b := bC) rfl; omega, HL5.out.bel.size, fun b hf => HLB.out.gw.hlt hf⟩
  clear k9 hbB HL5
  go_wp2
  rw [← hwB]
  obtain ⟨b9, hb9⟩ : ∃ b9, b9 = w5.heap.size := ⟨_, rfl⟩
  rw [← hb9] at HWS HN9 ⊢
  clear hwB hb9
  have hlC : bC < wB.heap.size := HLB.out.list.lt rfl
  have hC9 : bC ≠ b9 := fun e => HN9.out.2.2.1 e.symm
  go_loopw [10] (fun v10 wr => ∃ (i : Nat) (vW : Value) (vi : Nat → Value), v10 = .int .i64 (i : Nat) ∧ i ≤ d.t.nn ∧ Hid (WS wB wr b9 c d.t.nn i vW vi)) (fun v _ => d.t.nn - (intOf v).toNat)
  case atStart => exact ⟨0, _, _, rfl, Nat.zero_le _, HWS.out⟩
  case round =>
    rename World => wl
    clear HWS
    obtain ⟨i, vW, vi, rfl, hi, HW⟩ := hrel
    have hblC : wl.heap[bC]? = wB.heap[bC]? := HW.out.mv.other bC hlC hC9
    by_cases hli : i < d.t.nn
    · have hliI : (i : Int) < (d.t.nn : Int) := by omega
      have l0 := HLB.out.list.cell (i := i) hli (j := 0) (by omega)
      simp only [Nat.add_zero, Nat.mul_one, List.getElem?_cons_zero] at l0
      replace l0 := (World.cell?_of_block (a := ⟨bC, i, none⟩) hblC).trans l0
      have hlC2 : bC < wl.heap.size := Nat.lt_of_lt_of_le hlC HW.out.mv.size
      by_cases hci : c i = i
      · have HCI : Hid (c i = i) := hci
        rw [hci] at l0
        clear hci
        go_wp2
        clear l0
        go_loopw [11, 12] (fun v11 v12 wr => ∃ (k : Nat), v12 = .int .i64 (k : Nat) ∧ k ≤ d.t.nn ∧ Hid (Below wl.heap.size wl wr ∧ OL 1 3 wr v11 (memb c k i).length (natC (memb c k i)) ∧ ∀ b, v11.ownBlock = some b → wl.heap.size ≤ b)) (fun _ v _ => d.t.nn - (intOf v).toNat)
        case atStart => exact ⟨0, rfl, Nat.zero_le _, Below.refl _ _, OL.nil _ _ _ _, fun b hb => by cases hb⟩
        case round =>
          rename World => wm
          obtain ⟨k, rfl, hk, HK⟩ := hrel
          obtain ⟨aL, cL, hvL, -, -, -, -⟩ := HK.out.2.1.shape
          subst hvL
          by_cases hlk : k < d.t.nn
          · have hlkI : (k : Int) < (d.t.nn : Int) := by omega
            have l0 := HLB.out.list.cell (i := k) hlk (j := 0) (by omega)
            simp only [Nat.add_zero, Nat.mul_one, List.getElem?_cons_zero] at l0
            replace l0 := (HK.out.1.cell (p := ⟨bC, k, none⟩) hlC2).trans ((World.cell?_of_block (a := ⟨bC, k, none⟩) hblC).trans l0)
            have hlC3 : bC < wm.heap.size := Nat.lt_of_lt_of_le hlC2 HK.out.1.size
            by_cases hcc : c k = i
            · have HM : Hid (memb c (k + 1) i = memb c k i ++ [k]) := memb_yes hcc
              have hml : (memb c k i).length ≤ 60 := by have := memb_len c k i; omega
              rw [hcc] at l0
              go_wp2_with (at_builtin; refine Stop.of ?_)
              show wpList _ _ _ _ _ _
              have hol3 : OL 1 3 (wm.alloc (.cells #[.int .i64 (k : Nat)] 3 (0, 0))) (.slice aL (memb c k i).length cL) (memb c k i).length (natC (memb c k i)) := HK.out.2.1.stay fun b hb => Below.heap_alloc wm _ b (HK.out.2.1.lt hb)
              refine wpList_push rfl (.tmp 51) (.tmp 53) 31 rfl 1 3 _ 8 uIntsE iIntE (by decide) rfl (by decide) (.slice aL (memb c k i).length cL) (memb c k i).length (natC (memb c k i)) rfl [.int .i64 (k : Nat)] 3 hol3 (fun _ _ => rfl) 1 rfl rfl (by intro u hu; simp at hu; subst hu; rfl) (by omega) (natC (memb c k i ++ [k])) (fun q hq => by simp [natC, List.getElem?_append_left hq]) (by simp [natC]) ?_
              intro v4 w4 hol4 hap4 hne4
              replace hap4 := hap4.of_alloc (fun b hb => HK.out.2.1.lt hb)
              have HN : Hid (Below wl.heap.size wl w4 ∧ OL 1 3 w4 v4 (memb c (k + 1) i).length (natC (memb c (k + 1) i)) ∧ ∀ b, v4.ownBlock = some b → wl.heap.size ≤ b) := by
                refine ⟨HK.out.1.trans (hap4.toBelow HK.out.1.size HK.out.2.2), by rw [HM.out, List.length_append]; exact hol4, fun b hb => ?_⟩
                rcases hap4.at_ with e | ⟨b', e3, e4⟩
                · exact HK.out.2.2 b (e ▸ hb)
                · rw [e3] at hb; injection hb with hb; have := HK.out.1.size; omega
              clear hol3 hol4 hap4 hne4 HK l0 HM hml hcc
              go_wp2
              go_roundw
              case rel => exact ⟨k + 1, by go_num, by omega, HN.out⟩
              case measure => simp [intOf] <;> omega
            · have hccI : ¬ (((c k : Nat) : Int) = (i : Int)) := by omega
              have HM : Hid (memb c (k + 1) i = memb c k i) := memb_no hcc
              have HN : Hid (Below wl.heap.size wl wm ∧ OL 1 3 wm (.slice aL (memb c k i).length cL) (memb c (k + 1) i).length (natC (memb c (k + 1) i)) ∧ ∀ b, (Value.slice aL (memb c k i).length cL).ownBlock = some b → wl.heap.size ≤ b) := by rw [HM.out]; exact HK.out
              clear HK HM
              go_wp2
              go_roundw
              case rel => exact ⟨k + 1, by go_num, by omega, HN.out⟩
              case measure => simp [intOf] <;> omega
          · have hlkI : ¬ ((k : Int) < (d.t.nn : Int)) := by omega
            obtain rfl : k = d.t.nn := by omega
            have HW2 : Hid (WS wB wm b9 c d.t.nn i vW vi) := HW.out.below HK.out.1
            have HV2 : Hid (OL 1 3 wm (.slice aL (memb c d.t.nn i).length cL) (memb c d.t.nn i).length (natC (memb c d.t.nn i)) ∧ ∀ b, (Value.slice aL (memb c d.t.nn i).length cL).ownBlock = some b → wB.heap.size ≤ b ∧ ∀ k, k < (rpsL c i).length → (vi k).ownBlock ≠ some b) := ⟨HK.out.2.1, fun b hb => ⟨Nat.le_trans HW.out.mv.size (HK.out.2.2 b hb), fun k hk e => by have := (HW.out.ll.inn k hk).lt e; have := HK.out.2.2 b hb; omega⟩⟩
            obtain ⟨aW, cW, hvW, -, -, -, -⟩ := HW.out.ll.out.shape
            subst hvW
            have x0 : wm.cell? ⟨b9, 0, none⟩ = some (.slice aW (rpsL c i).length cW) := HW2.out.box.cell 0
            have hx9 := HW2.out.box.lt
            have hm6 : (rpsL c i).length ≤ 60 := by have := rpsL_len c i; omega
            have hO9 : (Value.slice aW (rpsL c i).length cW).ownBlock ≠ some b9 := fun e => by have := HW2.out.bl b9 (Or.inl e); have := HW2.out.lt; omega
            clear HK HW hk hlC2 hblC
            go_wp2_with (at_builtin; refine Stop.of ?_)
            show wpList _ _ _ _ _ _
            have hol3 : OL 1 31 (wm.alloc (.cells #[.slice aL (memb c d.t.nn i).length cL] 31 (0, 0))) (.slice aW (rpsL c i).length cW) (rpsL c i).length (fun k => [vi k]) := HW2.out.ll.out.stay fun b hb => Below.heap_alloc wm _ b (HW2.out.ll.out.lt hb)
            refine wpList_push rfl (.tmp 55) (.tmp 57) 33 rfl 1 31 _ 24 uIL iIL (by decide) rfl (by decide) (.slice aW (rpsL c i).length cW) (rpsL c i).length (fun k => [vi k]) rfl [.slice aL (memb c d.t.nn i).length cL] 31 hol3 (fun _ _ => rfl) 1 rfl rfl (by intro u hu; simp at hu; subst hu; rfl) (by omega) (fun k => [upd vi (rpsL c i).length (.slice aL (memb c d.t.nn i).length cL) k]) (fun k hk => by rw [upd_other _ _ (by omega)]) (by rw [upd_same]) ?_
            intro v9 w9 hol9 hap9 hne9
            replace hap9 := hap9.of_alloc (fun b hb => HW2.out.ll.out.lt hb)
            have HN : Hid (WS wB (w9.setCell ⟨b9, 0, none⟩ v9) b9 c d.t.nn (i + 1) v9 (upd vi (rpsL c i).length (.slice aL (memb c d.t.nn i).length cL))) := HW2.out.yes HCI.out hap9 HV2.out.1 HV2.out.2 hol9
            have hbk9 : w9.heap[b9]? = _ := (hap9.other b9 hx9 hO9).trans HW2.out.box
            have y0 : w9.cell? ⟨b9, 0, none⟩ = some (.slice aW (rpsL c i).length cW) := cell_of_row w9 b9 0 _ 33 (0, 0) hbk9
            have yf : w9.frozen? ⟨b9, 0, none⟩ = false := frozen_of_row w9 b9 0 _ 33 hbk9
            have hy9 : b9 < w9.heap.size := (Array.getElem?_eq_some_iff.1 hbk9).1
            obtain ⟨aV, cV, hv9, -, -, -, -⟩ := hol9.shape
            subst hv9
            obtain ⟨lenV, hlenV⟩ : ∃ lenV, lenV = (rpsL c i).length + 1 := ⟨_, rfl⟩
            rw [← hlenV] at HN ⊢
            clear hol3 hol9 hap9 hne9 hbk9 HW2 HV2 x0 hx9 hO9 hlenV
            go_wp2
            go_roundw
            case rel => exact ⟨i + 1, _, _, by go_num, by omega, HN.out⟩
            case measure => simp [intOf] <;> omega
      · have hciI : ¬ (((c i : Nat) : Int) = (i : Int)) := by omega
        have HN : Hid (WS wB wl b9 c d.t.nn (i + 1) vW vi) := HW.out.no hci
        clear HW hci
        go_wp2
        go_roundw
        case rel => exact ⟨i + 1, _, _, by go_num, by omega, HN.out⟩
        case measure => simp [intOf] <;> omega
    · have hliI : ¬ ((i : Int) < (d.t.nn : Int)) := by omega
      obtain rfl : i = d.t.nn := by omega
      clear hi hblC
      obtain ⟨Wn, hWn⟩ : ∃ Wn, Wn = wl.alloc (.cells #[.int .i64 0] 3 (0, 0)) := ⟨_, rfl⟩
      have hbn : Below wl.heap.size wl Wn := by rw [hWn]; go_grown
      have HWn : Hid (WS wB Wn b9 c d.t.nn d.t.nn vW vi) := HW.out.below hbn
      have HNB : Hid (Blk 3 Wn wl.heap.size #[.int .i64 0] ∧ wB.heap.size ≤ wl.heap.size ∧ ∀ b, FL vW (rpsL c d.t.nn).length vi b → b ≠ wl.heap.size) := ⟨by rw [hWn]; exact heap_alloc_new wl _, HW.out.mv.size, fun b hb e => by have := HW.out.ll.lt hb; omega⟩
      have HGn : Hid (GW Wn g d) := HLB.out.gw.keep (fun b hb => HWn.out.mv.other b (HLB.out.gw.hlt hb) (fun e => HN9.out.1 (by have e2 : b = b9 := e; rw [← e2]; exact hb)))
      clear hbn HW
      go_wp2_with fail
      rw [← hWn]
      obtain ⟨b13, hb13⟩ : ∃ b13, b13 = wl.heap.size := ⟨_, rfl⟩
      rw [← hb13] at HNB ⊢
      clear hWn hb13
      refine (Classes_any g d Wn HGn.out HD.out.2.2.1 HD.out.1 HD.out.2.1).mono ?_
      rintro e Wr ⟨bX, c2, vO, rfl, hxb, hxs, hls, vi2, hll2, hbl2, hMv⟩
      have hcc : ∀ i, i < d.t.nn → c2 i = c i := fun i hi => (hls i hi).one (HC.out i hi)
      rw [rpsL_congr hcc] at hll2 hbl2
      have hll3 := hll2.congr (li' := clsL c d.t.nn) (fun k _ => (clsL_congr hcc k).symm)
      clear hll2 hls hcc
      have hfh : ∀ b, Fg g d b → w1.heap.size ≤ b ∧ b < wB.heap.size := fun b hb => ⟨HLB.out.fh b (Or.inl hb), HN9.out.2.2.2.2 b (Or.inl hb)⟩
      obtain ⟨m, hm⟩ : ∃ m, m = (rpsL c d.t.nn).length := ⟨_, rfl⟩
      have hm6 : m ≤ 60 := by rw [hm]; have := rpsL_len c d.t.nn; omega
      have hnbl : b13 < Wn.heap.size := HNB.out.1.lt
      have h1B : w1.heap.size ≤ wB.heap.size := HLB.out.bel.size
      have hb3l : b3 < w1.heap.size := HK1.out.1.lt
      have hb4l : b4 < w1.heap.size := HK1.out.2.1.lt
      have h9B : b9 < wB.heap.size := HWn.out.lt
      have h13 : wB.heap.size ≤ b13 := HNB.out.2.1
      have hsn := HWn.out.mv.size
      have hsr := hMv.size
      have stay : ∀ b, b < Wn.heap.size → ¬ Fg g d b → Wr.heap[b]? = Wn.heap[b]? := fun b hb hn => hMv.other b hb hn
      have f13 : Blk 3 Wr b13 #[.int .i64 ((0 : Nat) : Int)] := (stay b13 hnbl (fun hf => by have := hfh b13 hf; omega)).trans HNB.out.1
      have f9 : Blk 33 Wr b9 #[vW] := (stay b9 (by omega) (fun hf => HN9.out.1 (Or.inl hf))).trans HWn.out.box
      have fw : LL Wr vW m vi (clsL c d.t.nn) := by
        rw [hm]
        exact HWn.out.ll.keep (fun b hb => stay b (HWn.out.ll.lt hb) (fun hf => by have := hfh b hf; have := HWn.out.bl b hb; omega))
      have f3 : Blk 3 Wr b3 #[.int .i64 leave] := by
        refine (stay b3 (by omega) (fun hf => by have := hfh b3 hf; omega)).trans ?_
        refine (HWn.out.mv.other b3 (by omega) (fun e => by have e2 : b3 = b9 := e; have := HN9.out.2.2.2.1; omega)).trans ?_
        exact HK1.out.1.stay HLB.out.bel
      have f4 : Blk 4 Wr b4 #[.bool false] := by
        refine (stay b4 (by omega) (fun hf => by have := hfh b4 hf; omega)).trans ?_
        refine (HWn.out.mv.other b4 (by omega) (fun e => by have e2 : b4 = b9 := e; have := HN9.out.2.2.2.1; omega)).trans ?_
        exact HK1.out.2.1.stay HLB.out.bel
      have fb : Below w.heap.size w Wr := by
        have q1 : Below w.heap.size w wB := HB1.out.trans (HLB.out.bel.mono HB1.out.size)
        have q2 : Below w.heap.size w Wn := q1.trans (HWn.out.mv.toBelow q1.size (fun b hb => by have e2 : b = b9 := hb; have := HN9.out.2.2.2.1; have := HB1.out.size; omega))
        exact q2.trans (hMv.toBelow q2.size (fun b hb => by have := hfh b hb; have := HB1.out.size; omega))
      have n13 : ∀ b, FL vW m vi b → b ≠ b13 ∧ b < Wr.heap.size := fun b hb => ⟨HNB.out.2.2 b (by rw [← hm]; exact hb), fw.lt hb⟩
      rw [← hm] at hll3 hbl2
      have n13x : ∀ b, FL vO m vi2 b → b ≠ b13 ∧ b < Wr.heap.size := fun b hb => ⟨fun e => by have := hbl2 b hb; omega, hll3.lt hb⟩
      have HRC : Hid ((Blk 3 Wr b13 #[.int .i64 ((0 : Nat) : Int)] ∧ Blk 33 Wr b9 #[vW] ∧ LL Wr vW m vi (clsL c d.t.nn) ∧ Blk 3 Wr b3 #[.int .i64 leave] ∧ Blk 4 Wr b4 #[.bool false]) ∧ (Blk 33 Wr bX #[vO] ∧ LL Wr vO m vi2 (clsL c d.t.nn)) ∧ (b9 ≠ b13 ∧ b3 ≠ b13 ∧ b4 ≠ b13 ∧ bX ≠ b13 ∧ w.heap.size ≤ b13 ∧ w.heap.size ≤ b4) ∧ (∀ b, FL vW m vi b → b ≠ b13 ∧ b < Wr.heap.size) ∧ (∀ b, FL vO m vi2 b → b ≠ b13 ∧ b < Wr.heap.size) ∧ Below w.heap.size w Wr ∧ (∀ k, k < m → 0 < (clsL c d.t.nn k).length ∧ (clsL c d.t.nn k).length ≤ 60)) :=
        ⟨⟨f13, f9, fw, f3, f4⟩, ⟨hxb, hll3⟩, ⟨by omega, by omega, by omega, by omega, by have := HB1.out.size; omega, HK1.out.2.2.2.1⟩, n13, n13x, fb, fun k hk => ⟨clsL_pos (by omega), by have := memb_len c d.t.nn ((rpsL c d.t.nn).getD k 0); unfold clsL; omega⟩⟩
      generalize clsL c d.t.nn = ls at HRC
      clear hll3 hbl2 hMv hxb hxs f13 f9 fw f3 f4 fb n13 n13x stay hsn hsr hnbl h1B hb3l hb4l h9B h13 hfh HNB HWn HGn HLB HN9 HC HD HK1 HB1 hm hlC hC9
      go_wp2_with fail
      rw [← wpIn_wide (n := 8)]
      refine range_wide2 (gf := 18) (lb := #[.pointer (some ⟨bX, 0, none⟩)]) rfl (enters_of Try.func18 (by kernel_rfl) rfl)
        (fun k W => k ≤ m ∧ Mv (OneB b13) Wr W ∧ Blk 3 W b13 #[.int .i64 (k : Nat)])
        (fun k x W => k < m ∧ ∃ b' cap' : Nat, x = .slice (some ⟨b', 0, none⟩) (ls k).length cap' ∧ OL 1 3 W (.slice (some ⟨b', 0, none⟩) (ls k).length cap') (ls k).length (natC (ls k)) ∧ b' ≠ Wr.heap.size + 1)
        (fun cd W => ∃ id k, cd = .exit id ∧ id = 4 ∧ k ≤ m ∧ Mv (OneB b13) Wr W ∧ Blk 3 W b13 #[.int .i64 (k : Nat)] ∧ (k : Int) = leave)
        (fun k => k = m) 14 ?hst ?hok ?hsx ?h0 ?hassign ?hbody ?hit ?hdone ?hstop
      case hst =>
        intro k W o ⟨h1, h2, h3⟩
        have := HRC.out.1.1.lt
        exact ⟨h1, mv_put h2 (by omega) o, blk_put h3 (by omega) o⟩
      case hok =>
        rintro k x W o ⟨h1, b', cap', rfl, h3, h4⟩
        refine ⟨h1, b', cap', rfl, h3.stay (fun b hb => ?_), h4⟩
        injection hb with hb
        have hb2 : b' = b := hb
        exact World.putObj_heap_other (by omega)
      case hsx =>
        rintro cd W o ⟨id, k, h1, h2, h3, h4, h5, h6⟩
        have := HRC.out.1.1.lt
        exact ⟨id, k, h1, h2, h3, mv_put h4 (by omega) o, blk_put h5 (by omega) o, h6⟩
      case h0 =>
        intro o o'
        have hb : Below Wr.heap.size Wr ((Wr.alloc o).alloc o') := ((Below.refl _ Wr).alloc (Nat.le_refl _) _).alloc (by simp) _
        exact ⟨Nat.zero_le _, Mv.below hb, HRC.out.1.1.stay hb⟩
      case hassign =>
        intro x W K hK
        have key : ∀ (A B : Act), A = B → K A W → K B W := fun A B e h => e ▸ h
        gi_wp2
        exact key _ _ (by kernel_rfl) hK
      case hdone =>
        rintro k W rfl ⟨h1, h2, h3⟩ hD
        have q13 : W.cell? ⟨b13, 0, none⟩ = some (.int .i64 (k : Nat)) := h3.cell 0
        have l13 := h3.lt
        have k9 : Blk 33 W b9 #[vW] := (h2.other b9 HRC.out.1.2.1.lt HRC.out.2.2.1.1).trans HRC.out.1.2.1
        obtain ⟨aW, cW, hvW, -, -, -, -⟩ := HRC.out.1.2.2.1.out.shape
        subst hvW
        have q9 : W.cell? ⟨b9, 0, none⟩ = some (.slice aW k cW) := k9.cell 0
        have l9 := k9.lt
        have k4 : Blk 4 W b4 #[.bool false] := (h2.other b4 HRC.out.1.2.2.2.2.lt HRC.out.2.2.1.2.2.1).trans HRC.out.1.2.2.2.2
        have q4 : W.cell? ⟨b4, 0, none⟩ = some (.bool false) := k4.cell 0
        have p4 : W.frozen? ⟨b4, 0, none⟩ = false := frozen_of_row W b4 0 _ 4 k4
        have l4 := k4.lt
        have HD2 : Hid (W.heap[Wr.heap.size]? = some (.deferred (some [])) ∧ Mv (OneB b13) Wr W ∧ Blk 4 W b4 #[.bool false]) := ⟨hD, h2, k4⟩
        clear h2 h3 k9 k4 hD
        go_wp2
        exact leave_true (by kernel_rfl) HD2.out.1 HD2.out.2.1 HD2.out.2.2 HRC.out.2.2.2.2.2.1 HRC.out.2.2.1.2.2.2.2.2 HRC.out.2.2.1.2.2.2.2.1 HRC.out.1.2.2.2.2.lt
      case hstop =>
        rintro cd W ⟨id, k, rfl, rfl, h3, h4, h5, h6⟩ hD
        rw [wpIn_wide]
        have q13 : W.cell? ⟨b13, 0, none⟩ = some (.int .i64 (k : Nat)) := h5.cell 0
        have l13 := h5.lt
        have k9 : Blk 33 W b9 #[vW] := (h4.other b9 HRC.out.1.2.1.lt HRC.out.2.2.1.1).trans HRC.out.1.2.1
        obtain ⟨aW, cW, hvW, -, -, -, -⟩ := HRC.out.1.2.2.1.out.shape
        subst hvW
        have q9 : W.cell? ⟨b9, 0, none⟩ = some (.slice aW m cW) := k9.cell 0
        have l9 := k9.lt
        have k4 : Blk 4 W b4 #[.bool false] := (h4.other b4 HRC.out.1.2.2.2.2.lt HRC.out.2.2.1.2.2.1).trans HRC.out.1.2.2.2.2
        have q4 : W.cell? ⟨b4, 0, none⟩ = some (.bool false) := k4.cell 0
        have p4 : W.frozen? ⟨b4, 0, none⟩ = false := frozen_of_row W b4 0 _ 4 k4
        have l4 := k4.lt
        have k3 : Blk 3 W b3 #[.int .i64 leave] := (h4.other b3 HRC.out.1.2.2.2.1.lt HRC.out.2.2.1.2.1).trans HRC.out.1.2.2.2.1
        have q3 : W.cell? ⟨b3, 0, none⟩ = some (.int .i64 leave) := k3.cell 0
        have l3 := k3.lt
        rw [← h6] at q3
        have HD2 : Hid (W.heap[Wr.heap.size]? = some (.deferred (some [])) ∧ Mv (OneB b13) Wr W ∧ Blk 4 W b4 #[.bool false]) := ⟨hD, h4, k4⟩
        clear h4 h5 k9 k4 k3 hD h6
        by_cases hkm : k = m
        · rw [← hkm] at q9
          go_wp2
          exact leave_true (by kernel_rfl) HD2.out.1 HD2.out.2.1 HD2.out.2.2 HRC.out.2.2.2.2.2.1 HRC.out.2.2.1.2.2.2.2.2 HRC.out.2.2.1.2.2.2.2.1 HRC.out.1.2.2.2.2.lt
        · have hkmI : ¬ ((k : Int) = (m : Int)) := by omega
          go_wp2
          exact leave_true (by kernel_rfl) HD2.out.1 HD2.out.2.1 HD2.out.2.2 HRC.out.2.2.2.2.2.1 HRC.out.2.2.1.2.2.2.2.2 HRC.out.2.2.1.2.2.2.2.1 HRC.out.1.2.2.2.2.lt
      case hbody =>
        rintro k x W ⟨h1, h2, h3⟩ ⟨hk, b', cap', rfl, h5, h6⟩ hlt
        have HST : Hid (Mv (OneB b13) Wr W ∧ Blk 3 W b13 #[.int .i64 (k : Nat)]) := ⟨h2, h3⟩
        have q13 : W.cell? ⟨b13, 0, none⟩ = some (.int .i64 (k : Nat)) := h3.cell 0
        have p13 : W.frozen? ⟨b13, 0, none⟩ = false := frozen_of_row W b13 0 _ 3 h3
        have l13 := h3.lt
        have k9 : Blk 33 W b9 #[vW] := (h2.other b9 HRC.out.1.2.1.lt HRC.out.2.2.1.1).trans HRC.out.1.2.1
        have hlw : LL W vW m vi ls := HRC.out.1.2.2.1.keep (fun b hb => h2.other b (HRC.out.2.2.2.1 b hb).2 (HRC.out.2.2.2.1 b hb).1)
        obtain ⟨bO, cO, hvW, -, -⟩ := hlw.out.open k hk
        subst hvW
        have q9 : W.cell? ⟨b9, 0, none⟩ = some (.slice (some ⟨bO, 0, none⟩) m cO) := k9.cell 0
        have l9 := k9.lt
        have qO := hlw.out.cell (i := k) hk (j := 0) (by omega)
        simp only [Nat.add_zero, Nat.mul_one, List.getElem?_cons_zero] at qO
        have lO : bO < W.heap.size := hlw.out.lt rfl
        have k3 : Blk 3 W b3 #[.int .i64 leave] := (h2.other b3 HRC.out.1.2.2.2.1.lt HRC.out.2.2.1.2.1).trans HRC.out.1.2.2.2.1
        have q3 : W.cell? ⟨b3, 0, none⟩ = some (.int .i64 leave) := k3.cell 0
        have l3 := k3.lt
        have hin := hlw.inn k hk
        obtain ⟨aI, cI, hvi, -, -, -, -⟩ := hin.shape
        rw [hvi] at qO hin
        have HAL : Hid (Calls Try.prog 8 #[.slice (some ⟨b', 0, none⟩) (ls k).length cap', .slice aI (ls k).length cI] W fun e w' => e = .returned (.bool true) ∧ Below W.heap.size W w') := by
          have h60 := (HRC.out.2.2.2.2.2.2 k hk).2
          refine (Alike_any _ _ _ _ W (ai_of_ol h5 (by omega)) (ai_of_ol hin (by omega))).mono ?_
          rintro e w' ⟨rfl, hb9⟩
          exact ⟨by simp, hb9⟩
        have hkI : (k : Int) < (m : Int) := by omega
        have hkJ : ¬ ((m : Int) ≤ (k : Int)) := by omega
        have hkN : ¬ (m ≤ k) := by omega
        generalize (ls k).length = lz at *
        clear hlw k9 k3 hin hvi h5
        gi_wp2_with fail
        refine ⟨trivial, ?_⟩
        refine (CallsIn.inRound _ (callsIn_wide.2 HAL.out)).mono ?_
        rintro e W7 ⟨rfl, hb7⟩
        replace q13 := (hb7.cell (p := ⟨b13, 0, none⟩) l13).trans q13
        have k13 := HST.out.2.stay hb7
        replace p13 : W7.frozen? ⟨b13, 0, none⟩ = false := frozen_of_row W7 b13 0 _ 3 k13
        replace q9 := (hb7.cell (p := ⟨b9, 0, none⟩) l9).trans q9
        replace q3 := (hb7.cell (p := ⟨b3, 0, none⟩) l3).trans q3
        have h37 : b3 ≠ b13 := HRC.out.2.2.1.2.1
        have s7 := hb7.size
        replace l13 : b13 < W7.heap.size := by omega
        replace l3 : b3 < W7.heap.size := by omega
        have HN : Hid (((W7.setCell ⟨b13, 0, none⟩ (.int .i64 ((k : Int) + 1))).heap[Wr.heap.size + 1]? = W.heap[Wr.heap.size + 1]? ∧ (W7.setCell ⟨b13, 0, none⟩ (.int .i64 ((k : Int) + 1))).heap[Wr.heap.size]? = W.heap[Wr.heap.size]?) ∧ k + 1 ≤ m ∧ Mv (OneB b13) Wr (W7.setCell ⟨b13, 0, none⟩ (.int .i64 ((k : Int) + 1))) ∧ Blk 3 (W7.setCell ⟨b13, 0, none⟩ (.int .i64 ((k : Int) + 1))) b13 #[.int .i64 ((k + 1 : Nat) : Int)]) := by
          have h13l := HRC.out.1.1.lt
          refine ⟨⟨?_, ?_⟩, by omega, ?_, ?_⟩
          · rw [heap_setCell_other W7 ⟨b13, 0, none⟩ _ _ (by show Wr.heap.size + 1 ≠ b13; omega)]
            exact hb7.block _ hlt
          · rw [heap_setCell_other W7 ⟨b13, 0, none⟩ _ _ (by show Wr.heap.size ≠ b13; omega)]
            exact hb7.block _ (by omega)
          · exact (HST.out.1.trans (Mv.below (F := fun _ => False) hb7) (fun b hf => hf.elim)).set (a := ⟨b13, 0, none⟩) (Or.inl rfl) _
          · have h9 := Blk.set k13 0 (.int .i64 ((k : Int) + 1))
            simpa using h9
        clear k13 HST HAL hb7 s7 qO lO
        by_cases hle : (k : Int) + 1 = leave
        · have HLE : Hid ((k : Int) + 1 = leave) := hle
          rw [← hle] at q3
          clear hle
          gi_wp2
          exact ⟨HN.out.1, 4, k + 1, rfl, rfl, HN.out.2.1, HN.out.2.2.1, HN.out.2.2.2, by have := HLE.out; omega⟩
        · have hleI : ¬ ((k : Int) + 1 = leave) := hle
          gi_wp2
          exact ⟨HN.out.1, HN.out.2⟩
      case hit =>
        intro Rd Dn hsz hRd hY W1 hS hR
        exact classes1_in Wr b13 bX m vO vi2 ls HRC.out.2.1.1 HRC.out.2.1.2 HRC.out.2.2.1.2.2.2.1 HRC.out.2.2.2.2.1 HRC.out.1.1.lt hm6 HRC.out.2.2.2.2.2.2 _ (fun k W => Iff.rfl) _ (fun k W b' cap' hk ho hne => ⟨hk, b', cap', rfl, ho, hne⟩) Rd Dn hsz hRd hY W1 hS hR
end Euf
end Go.Proofs.Ytmnpefiaelpkfac
