/- A script played at both graphs; no statement of the seat is proved here. -/
import Derived.Test.YtlonnhnfmcndfadEufPkJGrows
import Derived.Deep.DeepCutAuto
namespace Go.Proofs.Ytlonnhnfmcndfad
open Go.RowKit
set_option linter.unusedVariables false
namespace Euf
set_option maxRecDepth 20000 in
set_option maxHeartbeats 16000000 in
theorem played_any (aS : Option Addr) (cS : Nat) (ops : List OpS) (w : World) (h : Scr w aS ops) (hl : ops.length ≤ maxLen) :
    Calls Try.prog 8 #[.slice aS ops.length cS] w fun e w' => PlayEnd w (playA ops) e w' := by
  have HS : Hid (Scr w aS ops) := h
  clear h
  go_enter Try.func8, Try.ntmps8
  go_wp2_with fail
  refine (New_any _).mono ?_
  rintro e w1 ⟨rfl, hG, hb1⟩
  have hs1 : (w.alloc (.cells #[.slice none 0 0, .slice none 0 0] 28 (0, 0))).heap.size = w.heap.size + 1 := by simp
  rw [hs1] at hG hb1 ⊢
  obtain ⟨d0, rg0, e1, e2, hst⟩ := start w w1 hG hb1
  obtain ⟨g, hg⟩ : ∃ g, g = w.heap.size + 1 + 3 := ⟨_, rfl⟩
  obtain ⟨W2, hW2⟩ : ∃ W2, W2 = w1.alloc (.cells #[.slice none 0 0, .slice none 0 0] 28 (0, 0)) := ⟨_, rfl⟩
  rw [← hg, ← hW2] at hst
  have HST : Hid (PSt w W2 g w.heap.size w1.heap.size d0 none 0 none 0 rg0 ([], []) 0) := hst
  rw [← hg]
  clear hst hG hb1 hs1 e1 e2 hg
  go_wp2
  rw [← hW2]
  clear hW2
  obtain ⟨bR, hbR⟩ : ∃ bR, bR = w.heap.size := ⟨_, rfl⟩
  obtain ⟨bW, hbW⟩ : ∃ bW, bW = w1.heap.size := ⟨_, rfl⟩
  rw [← hbR, ← hbW] at HST ⊢
  clear hbW hbR
  go_loopw [7, 8] (fun v7 v8 wr => ∃ k : Nat, v8 = .int .i64 (k : Nat) ∧ v7 = .bool true ∧ k ≤ ops.length ∧ k ≤ 60 ∧ Hid (∃ (d : Gd) (aN : Option Addr) (cN : Nat) (aE : Option Addr) (cE : Nat) (rg : Nat → Value), PSt w wr g bR bW d aN cN aE cE rg (playK ops k) k)) (fun _ v _ => ops.length - (intOf v).toNat)
  case atStart => exact ⟨0, rfl, rfl, Nat.zero_le _, by omega, ⟨d0, none, 0, none, 0, rg0, HST.out⟩⟩
  case round =>
    rename World => wl
    clear HST
    obtain ⟨k, rfl, rfl, hk, hk6, HX⟩ := hrel
    obtain ⟨d, aN, cN, aE, cE, rg, hP⟩ := HX.out
    clear HX
    have HP : Hid (PSt w wl g bR bW d aN cN aE cE rg (playK ops k) k) := hP
    obtain ⟨c0, c1, z0, z1⟩ := hP.bw.two
    obtain ⟨r0, r1, y0, y1⟩ := hP.br.two
    have hlw := hP.bw.lt
    have hlr := hP.br.lt
    clear hP
    by_cases h6 : k < 60 ∧ k < ops.length
    · obtain ⟨h60, hlt⟩ := h6
      have hltI : (k : Int) < (ops.length : Int) := by omega
      have h60I : (k : Int) < 60 := by omega
      obtain ⟨b, off, aZ, cZ, rfl, hb, m0, m1, m2, m3, m4, hok⟩ := HS.out.at_ k hlt
      obtain ⟨o, ho⟩ : ∃ o, o = ops.getD k noOp := ⟨_, rfl⟩
      rw [← ho] at m0 m1 m2 m3 m4 hok
      have hbel := HP.out.ply.bel
      replace m0 := (hbel.cell (p := ⟨b, off + k * 5, none⟩) hb).trans m0
      replace m1 := (hbel.cell (p := ⟨b, off + k * 5 + 1, none⟩) hb).trans m1
      replace m2 := (hbel.cell (p := ⟨b, off + k * 5 + 2, none⟩) hb).trans m2
      replace m3 := (hbel.cell (p := ⟨b, off + k * 5 + 3, none⟩) hb).trans m3
      replace m4 := (hbel.cell (p := ⟨b, off + k * 5 + 4, none⟩) hb).trans m4
      have hbl : b < wl.heap.size := Nat.lt_of_lt_of_le hb hbel.size
      have HOK : Hid (o.zs.length ≤ 20 → OpOk w o aZ cZ) := hok
      have HO : Hid (playK ops (k + 1) = if o.zs.length ≤ 20 then stepA (playK ops k) o else playK ops k) := by show _ = _; rw [ho]; rfl
      clear hbel hok ho hb
      by_cases h20 : o.zs.length ≤ 20
      · have h20I : ¬ ((20 : Int) < (o.zs.length : Int)) := by omega
        have HQ : Hid (∀ wq, Below wl.heap.size wl wq → Calls Try.prog 23 #[.pointer (some ⟨g, 0, none⟩), .agg #[.slice aN d.t.nn cN, .slice aE d.f.ne cE], .agg #[.int .i64 o.kind, .string o.fn, .slice aZ o.zs.length cZ, .int .i64 o.a, .int .i64 o.b]] wq fun e w7 => ∃ (d' : Gd) (aN' aE' : Option Addr) (cN' cE' : Nat) (rg' : Nat → Value), e = .returned (.tuple #[.agg #[.slice aN' d'.t.nn cN', .slice aE' d'.f.ne cE'], .bool true]) ∧ w7.cell? ⟨bW, 0, none⟩ = some (.slice aN d.t.nn cN) ∧ w7.cell? ⟨bW, 1, none⟩ = some (.slice aE d.f.ne cE) ∧ w7.frozen? ⟨bW, 0, none⟩ = false ∧ w7.frozen? ⟨bW, 1, none⟩ = false ∧ bW < w7.heap.size ∧ Hid (PSt w ((w7.setCell ⟨bW, 0, none⟩ (.slice aN' d'.t.nn cN')).setCell ⟨bW, 1, none⟩ (.slice aE' d'.f.ne cE')) g bR bW d' aN' cN' aE' cE' rg' (playK ops (k + 1)) (k + 1))) := by
          intro wq hq
          have hq' := HP.out.below hq
          refine (lstep_any w g d aN aE cN cE rg k (playK ops k) o aZ cZ wq hq'.ply hq'.abs (HOK.out h20) (by omega)).mono ?_
          rintro e w7 ⟨d', aN', aE', cN', cE', rg', rfl, k1, k2, k3⟩
          have bw := blk_mv hq'.bw k2.mv hq'.fw.1
          obtain ⟨b0, b1, b2, b3⟩ := bw.two
          refine ⟨d', aN', aE', cN', cE', rg', rfl, b0, b1, b2, b3, bw.lt, ?_⟩
          show PSt _ _ _ _ _ _ _ _ _ _ _ _ _
          rw [HO.out, if_pos h20]
          exact hq'.next k1 k2 k3
        clear HO HOK
        go_wp2
        go_cut [7] (fun v7 wx => v7 = .bool true ∧ Hid (∃ (d : Gd) (aN : Option Addr) (cN : Nat) (aE : Option Addr) (cE : Nat) (rg : Nat → Value), PSt w wx g bR bW d aN cN aE cE rg (playK ops (k + 1)) (k + 1)))
        case first =>
          go_region_with (go_at_call 23; refine (HQ.out _ ?_).mono ?_; go_grown; rintro e w7 ⟨d', aN', aE', cN', cE', rg', rfl, q0, q1, q2, q3, q4, HF⟩)
          all_goals (go_wp2_with fail; go_meet; exact ⟨rfl, ⟨d', aN', cN', aE', cE', rg', HF.out.below ⟨rfl, rfl, rfl, Nat.le_refl _, fun _ _ => rfl⟩⟩⟩)
        case rest =>
          obtain ⟨rfl, HX⟩ := hcut
          go_wp2
          go_roundw
          case rel => exact ⟨k + 1, by go_num, rfl, by omega, by omega, HX⟩
          case measure => simp [intOf]; omega
      · have h20I : (20 : Int) < (o.zs.length : Int) := by omega
        go_wp2
        go_roundw
        case rel => exact ⟨k + 1, by go_num, rfl, by omega, by omega, ⟨d, aN, cN, aE, cE, rg, by rw [HO.out, if_neg h20]; exact HP.out.more⟩⟩
        case measure => simp [intOf]; omega
    · have HK : Hid (playK ops k = playA ops) := by
        show _ = _
        unfold playA
        congr 1
        omega
      have HLN : Hid (∀ wq, Below wl.heap.size wl wq → Calls Try.prog 15 #[.pointer (some ⟨g, 0, none⟩)] wq fun e w' => e = .returned (.int .i64 (d.t.nn : Nat)) ∧ Below wl.heap.size wl w' ∧ w'.cell? ⟨bW, 0, none⟩ = some (.slice aN d.t.nn cN) ∧ w'.cell? ⟨bW, 1, none⟩ = some (.slice aE d.f.ne cE) ∧ w'.cell? ⟨bR, 0, none⟩ = some (.slice none 0 0) ∧ w'.cell? ⟨bR, 1, none⟩ = some (.slice none 0 0) ∧ w'.frozen? ⟨bR, 0, none⟩ = false ∧ w'.frozen? ⟨bR, 1, none⟩ = false ∧ bW < w'.heap.size ∧ bR < w'.heap.size) := fun wq hq => (Len_any g d wq (HP.out.ply.gw.below hq) (by have := HP.out.ply.nn; omega)).mono (by rintro e w9 ⟨rfl, hb9⟩; have k9 := hq.trans (hb9.mono hq.size); have b1 := HP.out.bw.stay k9; have b2 := HP.out.br.stay k9; exact ⟨rfl, k9, b1.two.1, b1.two.2.1, b2.two.1, b2.two.2.1, b2.two.2.2.1, b2.two.2.2.2, b1.lt, b2.lt⟩)
      have HEQ : Hid (∀ wq, Below wl.heap.size wl wq → Calls Try.prog 14 #[.pointer (some ⟨g, 0, none⟩)] wq fun e w' => e = .returned (.int .i64 (d.f.ne : Nat)) ∧ Below wl.heap.size wl w' ∧ w'.cell? ⟨bW, 0, none⟩ = some (.slice aN d.t.nn cN) ∧ w'.cell? ⟨bW, 1, none⟩ = some (.slice aE d.f.ne cE) ∧ w'.cell? ⟨bR, 0, none⟩ = some (.slice none 0 0) ∧ w'.cell? ⟨bR, 1, none⟩ = some (.slice none 0 0) ∧ w'.frozen? ⟨bR, 0, none⟩ = false ∧ w'.frozen? ⟨bR, 1, none⟩ = false ∧ bW < w'.heap.size ∧ bR < w'.heap.size) := fun wq hq => (Equations_any g d wq (HP.out.ply.gw.below hq)).mono (by rintro e w9 ⟨rfl, hb9⟩; have k9 := hq.trans (hb9.mono hq.size); have b1 := HP.out.bw.stay k9; have b2 := HP.out.br.stay k9; exact ⟨rfl, k9, b1.two.1, b1.two.2.1, b2.two.1, b2.two.2.1, b2.two.2.2.1, b2.two.2.2.2, b1.lt, b2.lt⟩)
      have hne1 : ¬ (bW = bR) := HP.out.new.2.2
      have hne2 : ¬ (bR = bW) := fun e => HP.out.new.2.2 e.symm
      have HEND : Hid (∀ wq, Below wl.heap.size wl wq → PlayEnd w (playA ops) (.returned (.tuple #[.pointer (some ⟨g, 0, none⟩), .agg #[.slice aN d.t.nn cN, .slice aE d.f.ne cE], .bool true])) ((wq.setCell ⟨bR, 0, none⟩ (.slice aN d.t.nn cN)).setCell ⟨bR, 1, none⟩ (.slice aE d.f.ne cE))) := by
        intro wq hq
        have hP := HP.out.below hq
        have hA := hP.abs
        rw [HK.out] at hA
        have oth : ∀ b, b ≠ bR → ((wq.setCell ⟨bR, 0, none⟩ (.slice aN d.t.nn cN)).setCell ⟨bR, 1, none⟩ (.slice aE d.f.ne cE)).heap[b]? = wq.heap[b]? := fun b hb => by rw [heap_setCell_other _ ⟨bR, 1, none⟩ b _ hb, heap_setCell_other _ ⟨bR, 0, none⟩ b _ hb]
        have hp : Ply w wq g d (.slice aN d.t.nn cN) (.slice aE d.f.ne cE) rg 60 := { hP.ply with nn := Nat.le_trans hP.ply.nn hk6, ne := Nat.le_trans hP.ply.ne hk6, np := Nat.le_trans hP.ply.np (by omega) }
        exact ⟨g, d, aN, aE, cN, cE, rg, rfl, hp.put (below_store2 (Below.refl _ _) hP.new.1 _ _) (fun b hb => oth b (fun e => hP.fr.1 (e ▸ hb))) (fun b hb => oth b (fun e => hP.fr.2 (e ▸ hb))), hA⟩
      clear HK HP HS
      go_upto_region 7 with fail
      go_cut [20] (fun v20 wx => v20 = .bool false ∧ wx = wl)
      case first =>
        clear c0 c1 z0 z1 r0 r1 y0 y1 HLN HEQ HEND
        by_cases hlt : k < ops.length
        · have hltI : (k : Int) < (ops.length : Int) := by omega
          have h60I : ¬ ((k : Int) < 60) := by omega
          clear h6
          go_wp2_with fail
          go_meet
          exact ⟨rfl, rfl⟩
        · have hltI : ¬ ((k : Int) < (ops.length : Int)) := by omega
          clear h6
          go_wp2_with fail
          go_meet
          exact ⟨rfl, rfl⟩
      case rest =>
        obtain ⟨rfl, rfl⟩ := hcut
        clear h6 hk hk6
        go_wp2
        go_region_with (first | (go_at_call 15; refine (HLN.out _ ?_).mono ?_; go_grown; rintro e w7 ⟨rfl, hb7, c0, c1, r0, r1, y0, y1, hlw, hlr⟩; clear HLN) | (go_at_call 14; refine (HEQ.out _ ?_).mono ?_; go_grown; rintro e w8 ⟨rfl, hb8, c0, c1, r0, r1, y0, y1, hlw, hlr⟩; clear HEQ))
        all_goals (go_wp2; refine bodyPost_ret (v := .tuple #[.pointer (some ⟨g, 0, none⟩), .agg #[.slice aN d.t.nn cN, .slice aE d.f.ne cE], .bool true]) (by simp [results, Try.results8, go_sem, r0, r1]) rfl ?_; exact HEND.out _ hb8)
end Euf
end Go.Proofs.Ytlonnhnfmcndfad
