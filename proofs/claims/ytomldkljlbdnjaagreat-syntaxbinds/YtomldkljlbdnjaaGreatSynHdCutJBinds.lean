/- SameTypes. No statement of the seat is proved here. -/
import Derived.Test.YtomldkljlbdnjaaGreatSynHbCutJBinds
namespace Go.Proofs.YtomldkljlbdnjaaGreat
open Go Go.RowKit
set_option linter.unusedVariables false
set_option linter.unusedSimpArgs false
namespace Syn
open Lex (T TL tx bs tkC FV IsNm hide)
open Euf (OL)
set_option maxHeartbeats 8000000 in
set_option maxRecDepth 10000 in
theorem sameT_step (n : Nat) (h0 : SmP n 0 19) (h1 : SmP n 1 22) : SmP (n + 1) 1 22 := fun w F G v v' rows rows' hx hx' hw hw' he wq hq => by
  obtain ⟨d, rfl⟩ := hq
  obtain ⟨qv, cv, rfl⟩ := hx.slice
  obtain ⟨qv', cv', rfl⟩ := hx'.slice
  have hlen := erL_len he
  have HX := hide (And.intro hx (And.intro hx' (And.intro hw (And.intro hw' he))))
  have HH0 := hide h0
  clear h0
  have HH1 := hide h1
  clear h1
  clear hx hx' hw hw' he
  generalize hN : rows'.length = N at *
  rw [hlen]
  have HN := hide hN
  have HLN := hide hlen
  clear hN hlen
  go_enter Tryz.func22, Tryz.ntmps22
  go_wp2
  go_loopw [5] (fun v5 wr => ∃ k m : Nat, v5 = .int .i64 (k : Int) ∧ k ≤ N ∧ wr = w.drewN (d + m)) (fun v _ => N - (intOf v).toNat)
  case atStart => exact ⟨0, 0, rfl, Nat.zero_le _, rfl⟩
  case round =>
    rename World => wl
    obtain ⟨k, m, rfl, hk, hwl⟩ := hrel
    have HWL := hide hwl
    have HWQ : Hid (∀ x, ∃ d, wl.drewN x = w.drewN d) := hide fun x => ⟨d + m + x, by rw [hwl]; exact World.drewN_drewN _ _ _⟩
    have HWR : Hid (∀ x, ∃ m', wl.drewN x = w.drewN (d + m')) := hide fun x => ⟨m + x, by rw [hwl, World.drewN_drewN, Nat.add_assoc]⟩
    clear hwl
    by_cases hlt : k < N
    · have hltI : (k : Int) < (N : Int) := by omega
      obtain ⟨hx, hx', hw, hw', he⟩ := HX.out
      have hkr : k < rows.length := by rw [HLN.out]; exact hlt
      have hkr' : k < rows'.length := by rw [HN.out]; exact hlt
      obtain ⟨C, hol, hlC, hel⟩ := hx.open
      obtain ⟨C', hol', hF', hlC', hel'⟩ := hx'.open
      obtain ⟨kd, nm, nl, elem, pred, p, hr, wa3, wa4⟩ := wf_ty (wfL_get hw hkr)
      obtain ⟨kd', nm', nl', elem', pred', p', hr', wb3, wb4⟩ := wf_ty (wfL_get hw' hkr')
      have hek := erL_get he hkr
      rw [hr, hr'] at hek
      obtain ⟨rfl, rfl, rfl, ea3, ea4⟩ := er_ty hek
      have h1 := hel k hkr
      have h2 := (hel' k hkr').stay (w' := w) (G := G) fun b kb _ => ⟨rfl, kb.1⟩
      rw [hr] at h1
      rw [hr'] at h2
      obtain ⟨q3, c3, q4, c4, hC, xa3, xa4⟩ := f2_ty h1
      obtain ⟨q3', c3', q4', c4', hC', xb3, xb4⟩ := xr_ty h2
      obtain ⟨b, cap, hv, hc1, hc2⟩ := hol.open k hkr
      obtain ⟨b', cap', hv', hc1', hc2'⟩ := hol'.open k hkr'
      simp only [Value.slice.injEq] at hv hv'
      obtain ⟨rfl, -, rfl⟩ := hv
      obtain ⟨rfl, -, rfl⟩ := hv'
      rw [← HN.out] at hol'
      replace hol := hol.stay (w' := wl) fun b _ => by rw [HWL.out]; rfl
      replace hol' := hol'.stay (w' := wl) fun b _ => by rw [HWL.out]; rfl
      have e0 := OL.cell hol hkr (j := 0) (by decide)
      have f0 := OL.cell hol' hkr' (j := 0) (by decide)
      have e1 := OL.cell hol hkr (j := 1) (by decide)
      have f1 := OL.cell hol' hkr' (j := 1) (by decide)
      have e2 := OL.cell hol hkr (j := 2) (by decide)
      have f2 := OL.cell hol' hkr' (j := 2) (by decide)
      have e3 := OL.cell hol hkr (j := 3) (by decide)
      have f3 := OL.cell hol' hkr' (j := 3) (by decide)
      have e4 := OL.cell hol hkr (j := 4) (by decide)
      have f4 := OL.cell hol' hkr' (j := 4) (by decide)
      rw [hC] at e0 e1 e2 e3 e4
      rw [hC'] at f0 f1 f2 f3 f4
      simp only [wd, Nat.add_zero, List.getElem?_cons_zero, List.getElem?_cons_succ] at e0 f0 e1 f1 e2 f2 e3 f3 e4 f4
      have HA3 := hide (HH1.out w F G _ _ _ _ xa3 xb3 wa3 wb3 ea3)
      have HA4 := hide (HH0.out w F G _ _ _ _ xa4 xb4 wa4 wb4 ea4)
      have q1s : ((tx nm).toList == (tx nm).toList) = true := by simp
      have q2s : (nl == nl) = true := by simp
      have hbd : N ≤ 9223372036854775807 := by rw [HN.out] at hc1'; unfold maxLen at hc2'; omega
      clear hx hx' hw hw' he hol hol' hlC hlC' hel hel' hF' hr hr' hek h1 h2 hC hC' hkr hkr' HX wa3 wb3 ea3 xa3 xb3 wa4 wb4 ea4 xa4 xb4
      generalize tx nm = s1 at *
      go_wp2_with fail
      go_quiet (first
        | (go_at_call_of 22 (Value.slice q3 elem.length c3); exact Calls.quiet_of (HA3.out _ (HWQ.out _)))
        | (go_at_call_of 19 (Value.slice q4 pred.length c4); exact Calls.quiet_of (HA4.out _ (HWQ.out _))))
      have HD := hide (HWR.out nq)
      clear e0 f0 e1 f1 e2 f2 e3 f3 e4 f4 HA3 HA4 HWQ HWL HWR q1s q2s
      go_wp2
      go_roundw
      case rel =>
        obtain ⟨d9, hd9⟩ := HD.out
        exact ⟨k + 1, d9, by go_num, by omega, hd9⟩
      case measure => simp [intOf]; omega
    · have hltI : ¬ (k : Int) < (N : Int) := by omega
      clear HX
      go_wp2
      go_ret
      exact ⟨rfl, m, by rw [HWL.out]⟩
end Syn
end Go.Proofs.YtomldkljlbdnjaaGreat
