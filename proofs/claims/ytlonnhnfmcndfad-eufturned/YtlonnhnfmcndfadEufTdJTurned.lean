/- The walk of EufTurned; no statement of the seat is proved here. -/
import Derived.Test.YtlonnhnfmcndfadEufT2JTurned
import Derived.Deep.DeepCutAuto
namespace Go.Proofs.Ytlonnhnfmcndfad
open Go.RowKit
set_option linter.unusedVariables false
namespace Euf
set_option maxRecDepth 20000 in
set_option maxHeartbeats 16000000 in
theorem eufTurned_by (hplay : PlayLaw) (aS : Option Addr) (cS : Nat) (ops : List OpS) (w : World) (hS : Scr w aS ops) (hl : ops.length ≤ maxLen) :
    Calls Try.prog 3 #[.slice aS ops.length cS] w fun e w' => e = .returned (.bool true) ∧ Below w.heap.size w w' := by
  have HPL : Hid PlayLaw := hplay
  have HS : Hid (Scr w aS ops ∧ ops.length ≤ maxLen) := ⟨hS, hl⟩
  clear hplay hS hl
  go_enter Try.func3, Try.ntmps3
  go_wp2_with fail
  refine (awake_by HPL.out w).mono ?_
  rintro e w1 ⟨rfl, hb1⟩
  go_wp2_with fail
  refine (HPL.out aS cS ops w1 (HS.out.1.below hb1) HS.out.2).mono ?_
  rintro e w2 ⟨g, d, aN, aE, cN, cE, rg, rfl, hP, hA⟩
  have HB1 : Hid (Below w.heap.size w w1) := hb1
  have HD : Hid (d.t.nn ≤ 60 ∧ d.f.ne ≤ 60 ∧ GSem d ∧ (∀ i, i < d.t.nn → (d.t.N i).2.length ≤ 20) ∧ (∀ i, i < d.t.nn → (d.t.N i).1.size ≤ maxLen)) := ⟨hP.nn, hP.ne, hP.sem, hP.al, fun i hi => Abs.fn HS.out.1 hA hi⟩
  have hlw := hP.lw
  have hd6 : d.t.nn ≤ 60 := hP.nn
  have he6 : d.f.ne ≤ 60 := hP.ne
  clear hb1 HPL HS hA hP
  obtain ⟨W2, hW2⟩ : ∃ W2, W2 = w2.alloc (.cells #[.slice aN d.t.nn cN, .slice aE d.f.ne cE] 28 (0, 0)) := ⟨_, rfl⟩
  obtain ⟨bW, hbW⟩ : ∃ bW, bW = w2.heap.size := ⟨_, rfl⟩
  rw [← hW2, ← hbW] at hlw
  have HLW : Hid (Lw w1 W2 g d d (.slice aN d.t.nn cN) (.slice aE d.f.ne cE) rg bW (.slice none 0 0) 0 (fun _ => 0)) := hlw
  clear hlw
  go_wp2_with fail
  rw [← hW2, ← hbW]
  refine (New_any _).mono ?_
  rintro e w3 ⟨rfl, hG, hB⟩
  have hl2 : L2 w1 w3 g d (W2.heap.size + 3) (dNew W2.heap.size) d (.slice aN d.t.nn cN) (.slice aE d.f.ne cE) rg bW := by
    refine { lw := HLW.out.below hB, gw := hG, sem := dNew_sem _, ap := fun b hb => ?_ }
    have h9 := dNew_fh hb
    refine ⟨fun hf => ?_, fun e => ?_, fun hf => ?_, ?_⟩
    · have := HLW.out.gw.hlt hf; omega
    · have := HLW.out.bw.lt; omega
    · have := HLW.out.r.lt hf; omega
    · have := HLW.out.bel.size; omega
  have hd0 : (dNew W2.heap.size).t.nn = 0 ∧ (dNew W2.heap.size).f.ne = 0 ∧ (dNew W2.heap.size).f.np = 0 := ⟨rfl, rfl, rfl⟩
  generalize dNew W2.heap.size = dn at hG hl2 hd0
  generalize W2.heap.size + 3 = q at hG hl2 ⊢
  have HL2 : Hid (L2 w1 w3 g d q dn d (.slice aN d.t.nn cN) (.slice aE d.f.ne cE) rg bW ∧ dn.t.nn = 0 ∧ dn.f.ne = 0 ∧ dn.f.np = 0) := ⟨hl2, hd0⟩
  clear hl2 hd0 hG hB HLW hW2 hbW W2
  go_wp2
  go_loopw [7] (fun v7 wr => ∃ (k : Nat) (dh : Gd), v7 = .int .i64 (k : Nat) ∧ k ≤ d.t.nn ∧ Hid (L2 w1 wr g d q dh d (.slice aN d.t.nn cN) (.slice aE d.f.ne cE) rg bW ∧ dh.t.nn = k ∧ (∀ i, i < k → dh.t.N i = d.t.N i) ∧ dh.f.ne = 0 ∧ dh.f.np ≤ 21 * k)) (fun v _ => d.t.nn - (intOf v).toNat)
  case atStart => exact ⟨0, dn, rfl, Nat.zero_le _, HL2.out.1, HL2.out.2.1, (fun i hi => absurd hi (Nat.not_lt_zero _)), HL2.out.2.2.1, by rw [HL2.out.2.2.2]; exact Nat.zero_le _⟩
  case round =>
    rename World => wl
    clear HL2
    obtain ⟨k, dh, rfl, hk, HR⟩ := hrel
    obtain ⟨c0, c1, -, -⟩ := HR.out.1.lw.bw.two
    have hlb := HR.out.1.lw.bw.lt
    by_cases hlt : k < d.t.nn
    · have hltI : (k : Int) < (d.t.nn : Int) := by omega
      obtain ⟨bN, cN', hvN, -, -⟩ := HR.out.1.lw.r.nodes.open k hlt
      injection hvN with hvN e2 e3
      clear e2
      subst hvN e3
      have n0 := HR.out.1.lw.r.nodes.cell (i := k) hlt (j := 0) (by omega)
      have n1 := HR.out.1.lw.r.nodes.cell (i := k) hlt (j := 1) (by omega)
      simp only [Nat.add_zero, List.getElem?_cons_zero, List.getElem?_cons_succ] at n0 n1
      have hbN : bN < wl.heap.size := HR.out.1.lw.r.nodes.lt rfl
      obtain ⟨aZ, cZ, hrg, -, -, -, -⟩ := (HR.out.1.lw.r.args k hlt).shape
      rw [hrg] at n1
      have HND : Hid (∀ wq, Below wl.heap.size wl wq → Calls Try.prog 10 #[.pointer (some ⟨q, 0, none⟩), .string (d.t.N k).1, .slice aZ (d.t.N k).2.length cZ] wq fun e w' => ∃ v, e = .returned v ∧ Hid (∃ dh', L2 w1 w' g d q dh' d (.slice (some ⟨bN, 0, none⟩) d.t.nn cN) (.slice aE d.f.ne cE) rg bW ∧ dh'.t.nn = k + 1 ∧ (∀ i, i < k + 1 → dh'.t.N i = d.t.N i) ∧ dh'.f.ne = 0 ∧ dh'.f.np ≤ 21 * (k + 1))) := by
        intro wq hq
        refine (node_l2 (HR.out.1.below hq) hlt HD.out.2.2.1 (HD.out.2.2.2.1 k hlt) (HD.out.2.2.2.2 k hlt) HR.out.2.1 HR.out.2.2.1 HR.out.2.2.2.2 (by omega) hrg).mono ?_
        rintro e w' ⟨v, dh', rfl, q1, q2, q3, q4, q5⟩
        exact ⟨v, rfl, ⟨dh', q1, q2, q3, q4.trans HR.out.2.2.2.1, q5⟩⟩
      clear hrg HR
      generalize (d.t.N k).1 = fk at n0 HND
      generalize (d.t.N k).2.length = lk at n1 HND
      go_wp2
      go_region_with (go_at_call 10; refine (HND.out _ ?_).mono ?_; go_grown; rintro e w7 ⟨v7, rfl, H7⟩)
      all_goals
        obtain ⟨d7, h7⟩ := H7.out
        have H8 : Hid _ := h7
        clear h7 H7 c0 c1 n0 n1 hlb hbN HND
        go_wp2
        go_roundw
        case rel => exact ⟨k + 1, d7, by go_num, by omega, H8.out⟩
        case measure => simp [intOf]; omega
    · have hltI : ¬ ((k : Int) < (d.t.nn : Int)) := by omega
      obtain rfl : k = d.t.nn := by omega
      have heI : (d.f.ne : Int) ≤ 60 := by omega
      go_wp2
      clear c0 c1 hlb
      go_loopw [8] (fun v8 wr => ∃ (z : Int) (j : Nat) (dh : Gd), v8 = .int .i64 z ∧ -1 ≤ z ∧ z < (d.f.ne : Int) ∧ Hid (z + 1 = (j : Int) ∧ L2 w1 wr g d q dh d (.slice aN d.t.nn cN) (.slice aE d.f.ne cE) rg bW ∧ dh.t.nn = d.t.nn ∧ (∀ i, i < d.t.nn → dh.t.N i = d.t.N i) ∧ dh.f.ne = d.f.ne - j ∧ TurnE d.f dh.f (d.f.ne - j))) (fun v _ => (intOf v + 1).toNat)
      case atStart => exact ⟨_, d.f.ne, dh, rfl, by omega, by omega, by omega, HR.out.1, HR.out.2.1, HR.out.2.2.1, by rw [HR.out.2.2.2.1]; omega, fun j hj => by omega⟩
      case round =>
        rename World => wm
        clear HR
        obtain ⟨z, j, d3, rfl, hz1, hz2, H3⟩ := hrel
        obtain ⟨c0, c1, -, -⟩ := H3.out.2.1.lw.bw.two
        have hlb := H3.out.2.1.lw.bw.lt
        by_cases hz : 0 ≤ z
        · obtain ⟨p, rfl⟩ : ∃ p : Nat, z = p := ⟨z.toNat, by omega⟩
          have hp : p < d.f.ne := by omega
          have hpI : (p : Int) < (d.f.ne : Int) := by omega
          have hj : j = p + 1 := by have := H3.out.1; omega
          obtain ⟨bE, cE', hvE, -, -⟩ := H3.out.2.1.lw.r.eqs.open p hp
          injection hvE with hvE e2 e3
          clear e2
          subst hvE e3
          have n0 := H3.out.2.1.lw.r.eqs.cell (i := p) hp (j := 0) (by omega)
          have n1 := H3.out.2.1.lw.r.eqs.cell (i := p) hp (j := 1) (by omega)
          simp only [eqP, Nat.add_zero, List.getElem?_cons_zero, List.getElem?_cons_succ] at n0 n1
          have hbE : bE < wm.heap.size := H3.out.2.1.lw.r.eqs.lt rfl
          have HEL : Hid (∀ wq, Below wm.heap.size wm wq → Calls Try.prog 11 #[.pointer (some ⟨q, 0, none⟩), .int .i64 ((d.f.E p).2.1 : Nat), .int .i64 ((d.f.E p).1 : Nat)] wq fun e w' => ∃ v, e = .returned v ∧ Hid (∃ dh', L2 w1 w' g d q dh' d (.slice aN d.t.nn cN) (.slice (some ⟨bE, 0, none⟩) d.f.ne cE) rg bW ∧ dh'.t.nn = d.t.nn ∧ (∀ i, i < d.t.nn → dh'.t.N i = d.t.N i) ∧ dh'.f.ne = d.f.ne - p ∧ TurnE d.f dh'.f (d.f.ne - p))) := by
            intro wq hq
            obtain ⟨-, k1, k2, k3, k4, k5⟩ := H3.out
            rw [hj] at k4 k5
            refine (equal_l2 (k1.below hq) HD.out.2.2.1 k2 hd6 hp he6 (by omega) (by rw [show d.f.ne - 1 - p = d.f.ne - (p + 1) from by omega]; exact k5)).mono ?_
            rintro e w' ⟨v, dh', rfl, q1, q2, q3, q4⟩
            exact ⟨v, rfl, ⟨dh', q1, by rw [q2]; exact k2, fun i hi => by rw [q2]; exact k3 i hi, q3, q4⟩⟩
          clear hj H3
          generalize (d.f.E p).2.1 = xb at n1 HEL
          generalize (d.f.E p).1 = xa at n0 HEL
          go_wp2
          go_region_with (go_at_call 11; refine (HEL.out _ ?_).mono ?_; go_grown; rintro e w7 ⟨v7, rfl, H7⟩)
          all_goals
            obtain ⟨d7, h7⟩ := H7.out
            have H8 : Hid _ := h7
            clear h7 H7 c0 c1 n0 n1 hlb hbE HEL
            have hpJ : -1 ≤ (p : Int) - 1 := by omega
            go_wp2
            go_roundw
            case rel => exact ⟨(p : Int) - 1, p, d7, by go_num, by omega, by omega, by omega, H8.out⟩
            case measure => simp [intOf] <;> omega
        · obtain rfl : z = -1 := by omega
          have hj : j = 0 := by have := H3.out.1; omega
          have H4 : Hid (L2 w1 wm g d q d3 d (.slice aN d.t.nn cN) (.slice aE d.f.ne cE) rg bW ∧ d3.t.nn = d.t.nn ∧ (∀ i, i < d.t.nn → d3.t.N i = d.t.N i) ∧ d3.f.ne = d.f.ne ∧ TurnE d.f d3.f d.f.ne) := by
            obtain ⟨-, k1, k2, k3, k4, k5⟩ := H3.out
            rw [hj] at k4 k5
            exact ⟨k1, k2, k3, by omega, by simpa using k5⟩
          clear H3 hj hz hz1 hz2
          go_wp2
          clear c0 c1 hlb
          go_loopw [9] (fun v9 wr => ∃ (i : Nat) (d' dh : Gd), v9 = .int .i64 (i : Nat) ∧ i ≤ d.t.nn ∧ Hid (L2 w1 wr g d' q dh d (.slice aN d.t.nn cN) (.slice aE d.f.ne cE) rg bW ∧ d'.t = d.t ∧ d'.f = d.f ∧ dh.t = d3.t ∧ dh.f = d3.f)) (fun v _ => d.t.nn - (intOf v).toNat)
          case atStart => exact ⟨0, d, d3, rfl, Nat.zero_le _, H4.out.1, rfl, rfl, rfl, rfl⟩
          case round =>
            rename World => wn
            obtain ⟨i, d5, d6, rfl, hi, H5⟩ := hrel
            obtain ⟨c0, c1, -, -⟩ := H5.out.1.lw.bw.two
            have hlb := H5.out.1.lw.bw.lt
            by_cases hli : i < d.t.nn
            · have hliI : (i : Int) < (d.t.nn : Int) := by omega
              go_wp2_with fail
              refine (Find_any g d5 i wn H5.out.1.lw.gw H5.out.1.lw.sem (by rw [H5.out.2.1]; exact hli) (by rw [H5.out.2.1]; omega) (by rw [H5.out.2.2.1]; omega)).mono ?_
              rintro e w7 ⟨y, s, r, rfl, hL, hr, hns, hG, hM, hF⟩
              rw [H5.out.2.1, H5.out.2.2.1] at hL
              have HLA : Hid (Least d.t.nn d.t.N (EqOf d.f) i r) := hL
              have H7 : Hid (L2 w1 w7 g (dR d5 d5.f.ne y s) q d6 d (.slice aN d.t.nn cN) (.slice aE d.f.ne cE) rg bW ∧ (dR d5 d5.f.ne y s).t = d.t ∧ (dR d5 d5.f.ne y s).f = d.f ∧ d6.t = d3.t ∧ d6.f = d3.f) := ⟨H5.out.1.mvG hM (fun b hb => Or.inl hb) hG (dR_sem H5.out.1.lw.sem hr) (dR_fh hF), H5.out.2⟩
              generalize dR d5 d5.f.ne y s = d7 at H7
              clear hL hr hns hG hM hF H5 c0 c1 hlb
              go_wp2_with fail
              refine (Find_any q d6 i w7 H7.out.1.gw H7.out.1.sem (by rw [H7.out.2.2.2.1, H4.out.2.1]; exact hli) (by rw [H7.out.2.2.2.1, H4.out.2.1]; omega) (by rw [H7.out.2.2.2.2, H4.out.2.2.2.1]; omega)).mono ?_
              rintro e w8 ⟨y8, s8, r8, rfl, hL, hr, hns, hG, hM, hF⟩
              rw [H7.out.2.2.2.1, H7.out.2.2.2.2, H4.out.2.1] at hL
              obtain rfl := (HLA.out.turn H4.out.2.2.1 (H4.out.2.2.2.2.to H4.out.2.2.2.1) (H4.out.2.2.2.2.from H4.out.2.2.2.1)).one hL
              have H8 : Hid (L2 w1 w8 g d7 q (dR d6 d6.f.ne y8 s8) d (.slice aN d.t.nn cN) (.slice aE d.f.ne cE) rg bW ∧ d7.t = d.t ∧ d7.f = d.f ∧ (dR d6 d6.f.ne y8 s8).t = d3.t ∧ (dR d6 d6.f.ne y8 s8).f = d3.f) := ⟨H7.out.1.mvH hM (fun b hb => Or.inl hb) hG (dR_sem H7.out.1.sem hr) (dR_fh hF), H7.out.2⟩
              generalize dR d6 d6.f.ne y8 s8 = d8 at H8
              clear hL hr hns hG hM hF H7 HLA
              go_wp2
              go_roundw
              case rel => exact ⟨i + 1, d7, d8, by go_num, by omega, H8.out⟩
              case measure => simp [intOf]; omega
            · have hliI : ¬ ((i : Int) < (d.t.nn : Int)) := by omega
              have HBE : Hid (Below w.heap.size w wn) := HB1.out.trans (H5.out.1.lw.bel.mono HB1.out.size)
              go_wp2
              go_ret
              exact ⟨rfl, HBE.out⟩
end Euf
end Go.Proofs.Ytlonnhnfmcndfad
