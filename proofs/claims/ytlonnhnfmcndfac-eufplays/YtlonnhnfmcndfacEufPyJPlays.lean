/- The walk of EufPlays; no statement of the seat is proved here. -/
import Derived.Test.YtlonnhnfmcndfacEufCdJPlays
import Derived.Test.YtlonnhnfmcndfacEufSfJPlays
namespace Go.Proofs.Ytlonnhnfmcndfac
open Go.RowKit
set_option linter.unusedVariables false
namespace Euf
set_option maxRecDepth 20000 in
set_option maxHeartbeats 16000000 in
theorem eufPlays_by (hplay : PlayLaw) (aS : Option Addr) (cS : Nat) (ops : List OpS) (w : World) (hS : Scr w aS ops) (hl : ops.length ≤ maxLen) :
    Calls Try.prog 3 #[.slice aS ops.length cS] w fun e w' => e = .returned (.bool true) ∧ Below w.heap.size w w' := by
  have HPL : Hid PlayLaw := hplay
  have HS : Hid (Scr w aS ops ∧ ops.length ≤ maxLen) := ⟨hS, hl⟩
  clear hplay hS hl
  go_enter Try.func3, Try.ntmps3
  go_wp2_with fail
  refine (awake_by HPL.out w).mono ?_
  rintro e w1 ⟨rfl, hb1⟩
  go_wp2_with fail
  refine (HPL.out aS cS ops w1 (HS.out.1.below hb1) HS.out.2).mono ?_
  rintro e w2 ⟨g, d, aN, aE, cN, cE, rg, rfl, hP, hA⟩
  have HB1 : Hid (Below w.heap.size w w1) := hb1
  have HD : Hid (d.t.nn ≤ 60 ∧ d.f.ne ≤ 60 ∧ GSem d ∧ (∀ i, i < d.t.nn → (d.t.N i).2.length ≤ 20)) := ⟨hP.nn, hP.ne, hP.sem, hP.al⟩
  have hlw := hP.lw
  have hd6 : d.t.nn ≤ 60 := hP.nn
  have he6 : d.f.ne ≤ 60 := hP.ne
  clear hb1 HPL hA hP
  obtain ⟨W2, hW2⟩ : ∃ W2, W2 = w2.alloc (.cells #[.slice aN d.t.nn cN, .slice aE d.f.ne cE] 28 (0, 0)) := ⟨_, rfl⟩
  obtain ⟨bW, hbW⟩ : ∃ bW, bW = w2.heap.size := ⟨_, rfl⟩
  rw [← hW2, ← hbW] at hlw
  have HLW : Hid (Lw w1 W2 g d d (.slice aN d.t.nn cN) (.slice aE d.f.ne cE) rg bW (.slice none 0 0) 0 (fun _ => 0)) := hlw
  clear hlw
  go_wp2_with fail
  rw [← hW2, ← hbW]
  refine (Closed_any d aN aE cN cE rg W2 HLW.out.r HD.out.2.2.1 HD.out.1 HD.out.2.1 HD.out.2.2.2).mono ?_
  rintro e w3 ⟨bC, c, rfl, hci, hc1, hb3, hlst⟩
  have HL3 : Hid (Lw w1 w3 g d d (.slice aN d.t.nn cN) (.slice aE d.f.ne cE) rg bW (.slice (some ⟨bC, 0, none⟩) d.t.nn d.t.nn) d.t.nn c) := HLW.out.setList hb3 hci hc1
  have HC : Hid (∀ i, i < d.t.nn → Least d.t.nn d.t.N (EqOf d.f) i (c i)) := hlst
  clear hci hc1 hb3 hlst HLW hW2 hbW
  go_wp2
  go_loopw [7] (fun v7 wr => ∃ (k : Nat) (d' : Gd), v7 = .int .i64 (k : Nat) ∧ k ≤ ops.length ∧ k ≤ 60 ∧ Hid (Lw w1 wr g d' d (.slice aN d.t.nn cN) (.slice aE d.f.ne cE) rg bW (.slice (some ⟨bC, 0, none⟩) d.t.nn d.t.nn) d.t.nn c ∧ d'.t = d.t ∧ d'.f = d.f)) (fun v _ => 60 - (intOf v).toNat)
  case atStart => exact ⟨0, d, rfl, Nat.zero_le _, Nat.zero_le _, HL3.out, rfl, rfl⟩
  case round =>
    rename World => wl
    clear HL3
    obtain ⟨k, d5, rfl, hk, hk6, H5⟩ := hrel
    by_cases h6 : k < 60 ∧ k < ops.length
    · obtain ⟨h60, hlt⟩ := h6
      have hltI : (k : Int) < (ops.length : Int) := by omega
      have h60I : (k : Int) < 60 := by omega
      have HBL : Hid (Below w.heap.size w wl) := HB1.out.trans (H5.out.1.bel.mono HB1.out.size)
      obtain ⟨b, off, aZ, cZ, rfl, hb, -, -, -, m3, m4, -⟩ := HS.out.1.at_ k hlt
      replace m3 := (HBL.out.cell (p := ⟨b, off + k * 5 + 3, none⟩) hb).trans m3
      replace m4 := (HBL.out.cell (p := ⟨b, off + k * 5 + 4, none⟩) hb).trans m4
      replace hb : b < wl.heap.size := Nat.lt_of_lt_of_le hb HBL.out.size
      generalize (ops.getD k noOp).a = a at m3
      generalize (ops.getD k noOp).b = b2 at m4
      clear HBL
      go_wp2
      go_quiet (fail)
      go_wp2_with fail
      have H5q : Hid (Lw w1 (wl.drewN nq) g d5 d (.slice aN d.t.nn cN) (.slice aE d.f.ne cE) rg bW (.slice (some ⟨bC, 0, none⟩) d.t.nn d.t.nn) d.t.nn c ∧ d5.t = d.t ∧ d5.f = d.f) := ⟨H5.out.1.below ⟨rfl, rfl, rfl, Nat.le_refl _, fun _ _ => rfl⟩, H5.out.2⟩
      clear H5 m3 m4 hb
      generalize wl.drewN nq = wq at H5q ⊢
      cases hoa : okIn d.t.nn a with
      | false =>
        refine (Same_bad g d5 a b2 wq H5q.out.1.gw (by rw [H5q.out.2.1, hoa]; rfl) (by rw [H5q.out.2.1]; omega)).mono ?_
        rintro e w7 ⟨rfl, hb7⟩
        have H7 : Hid _ := And.intro (H5q.out.1.below hb7) H5q.out.2
        clear hb7 H5q
        go_wp2_with fail
        refine (Find_bad g d5 a w7 H7.out.1.gw (by rw [H7.out.2.1, hoa]) (by rw [H7.out.2.1]; omega)).mono ?_
        rintro e w8 ⟨rfl, hb8⟩
        have H8 : Hid _ := And.intro (H7.out.1.below hb8) H7.out.2
        obtain ⟨c0, c1, -, -⟩ := H8.out.1.bw.two
        have hlb := H8.out.1.bw.lt
        have HOA : Hid (okIn d.t.nn a = false) := hoa
        clear hb8 H7 hoa
        go_wp2_with fail
        refine (Is_any aN aE d.t.nn cN d.f.ne cE a w8 (by omega)).mono ?_
        rintro e w9 ⟨rfl, hb9⟩
        rw [HOA.out]
        have H9 : Hid _ := And.intro (H8.out.1.below hb9) H8.out.2
        clear hb9 H8 c0 c1 hlb
        go_wp2
        go_roundw
        case rel => exact ⟨k + 1, d5, by go_num, by omega, by omega, H9.out⟩
        case measure => simp [intOf]; omega
      | true =>
        obtain ⟨na, rfl⟩ : ∃ na : Nat, a = na := ⟨a.toNat, by simp [okIn] at hoa; omega⟩
        have hna : na < d.t.nn := by simp [okIn] at hoa; omega
        have hnaI : (na : Int) < (d.t.nn : Int) := by omega
        have HOA : Hid (okIn d.t.nn (na : Int) = true) := hoa
        cases hob : okIn d.t.nn b2 with
        | false =>
          refine (Same_bad g d5 na b2 wq H5q.out.1.gw (by rw [H5q.out.2.1, hob, Bool.and_false]) (by rw [H5q.out.2.1]; omega)).mono ?_
          rintro e w7 ⟨rfl, hb7⟩
          have H7 : Hid _ := And.intro (H5q.out.1.below hb7) H5q.out.2
          have HOB : Hid (okIn d.t.nn b2 = false) := hob
          clear hb7 H5q hob hoa
          go_wp2_with fail
          refine (Find_any g d5 na w7 H7.out.1.gw H7.out.1.sem (by rw [H7.out.2.1]; exact hna) (by rw [H7.out.2.1]; omega) (by rw [H7.out.2.2]; omega)).mono ?_
          rintro e w8 ⟨y, s, r, rfl, hL, hr, hns, hG, hM, hF⟩
          rw [H7.out.2.1, H7.out.2.2] at hL
          obtain rfl := hL.one (HC.out na hna)
          have H8 : Hid (Lw w1 w8 g (dR d5 d5.f.ne y s) d (.slice aN d.t.nn cN) (.slice aE d.f.ne cE) rg bW (.slice (some ⟨bC, 0, none⟩) d.t.nn d.t.nn) d.t.nn c ∧ (dR d5 d5.f.ne y s).t = d.t ∧ (dR d5 d5.f.ne y s).f = d.f) := ⟨H7.out.1.dR hr hG hM hF, H7.out.2⟩
          generalize dR d5 d5.f.ne y s = d8 at H8
          clear hL hr hns hG hM hF H7
          obtain ⟨c0, c1, -, -⟩ := H8.out.1.bw.two
          have hlb := H8.out.1.bw.lt
          go_wp2_with fail
          refine (Is_any aN aE d.t.nn cN d.f.ne cE na w8 (by omega)).mono ?_
          rintro e w9 ⟨rfl, hb9⟩
          rw [HOA.out]
          have H9 : Hid (Lw w1 w9 g d8 d (.slice aN d.t.nn cN) (.slice aE d.f.ne cE) rg bW (.slice (some ⟨bC, 0, none⟩) d.t.nn d.t.nn) d.t.nn c ∧ d8.t = d.t ∧ d8.f = d.f) := ⟨H8.out.1.below hb9, H8.out.2⟩
          clear hb9 H8 c0 c1 hlb
          obtain ⟨c0, c1, -, -⟩ := H9.out.1.bw.two
          have hlb := H9.out.1.bw.lt
          go_wp2_with fail
          refine (Is_any aN aE d.t.nn cN d.f.ne cE b2 w9 (by omega)).mono ?_
          rintro e w10 ⟨rfl, hb10⟩
          rw [HOB.out]
          have H10 : Hid (Lw w1 w10 g d8 d (.slice aN d.t.nn cN) (.slice aE d.f.ne cE) rg bW (.slice (some ⟨bC, 0, none⟩) d.t.nn d.t.nn) d.t.nn c ∧ d8.t = d.t ∧ d8.f = d.f) := ⟨H9.out.1.below hb10, H9.out.2⟩
          clear hb10 H9 c0 c1 hlb
          have l0 := H10.out.1.list.cell (i := na) hna (j := 0) (by omega)
          simp only [Nat.add_zero, Nat.mul_one, List.getElem?_cons_zero] at l0
          have hbC : bC < w10.heap.size := H10.out.1.list.lt rfl
          go_wp2
          go_roundw
          case rel => exact ⟨k + 1, d8, by go_num, by omega, by omega, H10.out⟩
          case measure => simp [intOf]; omega
        | true =>
          obtain ⟨nb, rfl⟩ : ∃ nb : Nat, b2 = nb := ⟨b2.toNat, by simp [okIn] at hob; omega⟩
          have hnb : nb < d.t.nn := by simp [okIn] at hob; omega
          have hnbI : (nb : Int) < (d.t.nn : Int) := by omega
          have HOB : Hid (okIn d.t.nn (nb : Int) = true) := hob
          clear hoa hob
          refine (Same_any g d5 na nb wq H5q.out.1.gw H5q.out.1.sem.ok (by rw [H5q.out.2.1]; exact hna) (by rw [H5q.out.2.1]; exact hnb) (by rw [H5q.out.2.1]; omega) (by rw [H5q.out.2.2]; omega)).mono ?_
          rintro e w7 ⟨y, s, rfl, hr, hns, hG, hM, hF⟩
          have H7 : Hid (Lw w1 w7 g (dR d5 d5.f.ne y s) d (.slice aN d.t.nn cN) (.slice aE d.f.ne cE) rg bW (.slice (some ⟨bC, 0, none⟩) d.t.nn d.t.nn) d.t.nn c ∧ (dR d5 d5.f.ne y s).t = d.t ∧ (dR d5 d5.f.ne y s).f = d.f) := ⟨H5q.out.1.dR hr hG hM hF, H5q.out.2⟩
          have HIS : Hid (decide ((s.S (d5.f.W na)).cls = (s.S (d5.f.W nb)).cls) = decide (c na = c nb)) := by
            show _ = _
            rw [decide_eq_decide, (HC.out na hna).same (HC.out nb hnb), H5q.out.1.sem.same (y := y) hr hns (by rw [H5q.out.2.1]; exact hna) (by rw [H5q.out.2.1]; exact hnb), H5q.out.2.1, H5q.out.2.2]
          rw [HIS.out]
          generalize dR d5 d5.f.ne y s = d7 at H7
          clear hr hns hG hM hF HIS H5q
          go_wp2_with fail
          refine (Find_any g d7 na w7 H7.out.1.gw H7.out.1.sem (by rw [H7.out.2.1]; exact hna) (by rw [H7.out.2.1]; omega) (by rw [H7.out.2.2]; omega)).mono ?_
          rintro e w8 ⟨y, s, r, rfl, hL, hr, hns, hG, hM, hF⟩
          rw [H7.out.2.1, H7.out.2.2] at hL
          obtain rfl := hL.one (HC.out na hna)
          have H8 : Hid (Lw w1 w8 g (dR d7 d7.f.ne y s) d (.slice aN d.t.nn cN) (.slice aE d.f.ne cE) rg bW (.slice (some ⟨bC, 0, none⟩) d.t.nn d.t.nn) d.t.nn c ∧ (dR d7 d7.f.ne y s).t = d.t ∧ (dR d7 d7.f.ne y s).f = d.f) := ⟨H7.out.1.dR hr hG hM hF, H7.out.2⟩
          generalize dR d7 d7.f.ne y s = d8 at H8
          clear hL hr hns hG hM hF H7
          obtain ⟨c0, c1, -, -⟩ := H8.out.1.bw.two
          have hlb := H8.out.1.bw.lt
          go_wp2_with fail
          refine (Is_any aN aE d.t.nn cN d.f.ne cE na w8 (by omega)).mono ?_
          rintro e w9 ⟨rfl, hb9⟩
          rw [HOA.out]
          have H9 : Hid (Lw w1 w9 g d8 d (.slice aN d.t.nn cN) (.slice aE d.f.ne cE) rg bW (.slice (some ⟨bC, 0, none⟩) d.t.nn d.t.nn) d.t.nn c ∧ d8.t = d.t ∧ d8.f = d.f) := ⟨H8.out.1.below hb9, H8.out.2⟩
          clear hb9 H8 c0 c1 hlb
          obtain ⟨c0, c1, -, -⟩ := H9.out.1.bw.two
          have hlb := H9.out.1.bw.lt
          go_wp2_with fail
          refine (Is_any aN aE d.t.nn cN d.f.ne cE nb w9 (by omega)).mono ?_
          rintro e w10 ⟨rfl, hb10⟩
          rw [HOB.out]
          have H10 : Hid (Lw w1 w10 g d8 d (.slice aN d.t.nn cN) (.slice aE d.f.ne cE) rg bW (.slice (some ⟨bC, 0, none⟩) d.t.nn d.t.nn) d.t.nn c ∧ d8.t = d.t ∧ d8.f = d.f) := ⟨H9.out.1.below hb10, H9.out.2⟩
          clear hb10 H9 c0 c1 hlb
          have l0 := H10.out.1.list.cell (i := na) hna (j := 0) (by omega)
          have l1 := H10.out.1.list.cell (i := nb) hnb (j := 0) (by omega)
          simp only [Nat.add_zero, Nat.mul_one, List.getElem?_cons_zero] at l0 l1
          have hbC : bC < w10.heap.size := H10.out.1.list.lt rfl
          by_cases hcc : c na = c nb
          · rw [decide_eq_true hcc]
            rw [← hcc] at l1
            clear hcc
            go_wp2
            go_quiet (fail)
            go_wp2
            go_roundw
            case rel => exact ⟨k + 1, d8, by go_num, by omega, by omega, H10.out.1.below ⟨rfl, rfl, rfl, Nat.le_refl _, fun _ _ => rfl⟩, H10.out.2⟩
            case measure => simp [intOf]; omega
          · rw [decide_eq_false hcc]
            have hccI : ¬ (((c na : Nat) : Int) = ((c nb : Nat) : Int)) := by omega
            have hccB : (((c na : Nat) : Int) == ((c nb : Nat) : Int)) = false := by simp; omega
            clear hcc
            go_wp2
            go_quiet (fail)
            go_wp2
            go_roundw
            case rel => exact ⟨k + 1, d8, by go_num, by omega, by omega, H10.out.1.below ⟨rfl, rfl, rfl, Nat.le_refl _, fun _ _ => rfl⟩, H10.out.2⟩
            case measure => simp [intOf]; omega
    · have HBE : Hid (Below w.heap.size w wl) := HB1.out.trans (H5.out.1.bel.mono HB1.out.size)
      clear H5
      by_cases hlt : k < ops.length
      · have hltI : (k : Int) < (ops.length : Int) := by omega
        have h60I : ¬ ((k : Int) < 60) := by omega
        clear h6
        go_wp2
        go_ret
        exact ⟨rfl, HBE.out⟩
      · have hltI : ¬ ((k : Int) < (ops.length : Int)) := by omega
        clear h6
        go_wp2
        go_ret
        exact ⟨rfl, HBE.out⟩
end Euf
end Go.Proofs.Ytlonnhnfmcndfac
