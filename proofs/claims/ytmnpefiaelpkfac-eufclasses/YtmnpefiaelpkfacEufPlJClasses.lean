/- A script played at both graphs; no statement of the seat is proved here. -/
import Derived.Test.YtmnpefiaelpkfacEufPkJClasses
import Derived.Test.YtmnpefiaelpkfacReg6JClasses
import Derived.Deep.DeepCutAuto
namespace Go.Proofs.Ytmnpefiaelpkfac
open Go.RowKit
set_option linter.unusedVariables false
namespace Euf
set_option maxRecDepth 20000 in
set_option maxHeartbeats 16000000 in
theorem played_any (aS : Option Addr) (cS : Nat) (ops : List OpS) (w : World) (h : Scr w aS ops) (hl : ops.length ≤ maxLen) :
    Calls Try.prog 5 #[.slice aS ops.length cS] w fun e w' => PlayEnd w (playA ops) e w' := by
  have HS : Hid (Scr w aS ops) := h
  clear h
  go_enter Try.func5, Try.ntmps5
  go_wp2_with fail
  refine (New_any _).mono ?_
  rintro e w1 ⟨rfl, hG, hb1⟩
  have hs1 : (w.alloc (.cells #[.slice none 0 0, .slice none 0 0] 28 (0, 0))).heap.size = w.heap.size + 1 := by simp
  rw [hs1] at hG hb1 ⊢
  obtain ⟨d0, rg0, e1, e2, hst⟩ := start w w1 hG hb1
  obtain ⟨g, hg⟩ : ∃ g, g = w.heap.size + 1 + 3 := ⟨_, rfl⟩
  obtain ⟨W2, hW2⟩ : ∃ W2, W2 = w1.alloc (.cells #[.slice none 0 0, .slice none 0 0] 28 (0, 0)) := ⟨_, rfl⟩
  rw [← hg, ← hW2] at hst
  have HST : Hid (PSt w W2 g w.heap.size w1.heap.size d0 none 0 none 0 rg0 ([], []) 0) := hst
  rw [← hg]
  clear hst hG hb1 hs1 e1 e2 hg
  go_wp2
  rw [← hW2]
  clear hW2
  obtain ⟨bR, hbR⟩ : ∃ bR, bR = w.heap.size := ⟨_, rfl⟩
  obtain ⟨bW, hbW⟩ : ∃ bW, bW = w1.heap.size := ⟨_, rfl⟩
  rw [← hbR, ← hbW] at HST ⊢
  clear hbW hbR
  go_loopw [7, 8] (fun v7 v8 wr => ∃ k : Nat, v8 = .int .i64 (k : Nat) ∧ v7 = .bool true ∧ k ≤ ops.length ∧ k ≤ 60 ∧ Hid (∃ (d : Gd) (aN : Option Addr) (cN : Nat) (aE : Option Addr) (cE : Nat) (rg : Nat → Value), PSt w wr g bR bW d aN cN aE cE rg (playK ops k) k)) (fun _ v _ => ops.length - (intOf v).toNat)
  case atStart => exact ⟨0, rfl, rfl, Nat.zero_le _, by omega, ⟨d0, none, 0, none, 0, rg0, HST.out⟩⟩
  case round =>
    rename World => wl
    clear HST
    obtain ⟨k, rfl, rfl, hk, hk6, HX⟩ := hrel
    obtain ⟨d, aN, cN, aE, cE, rg, hP⟩ := HX.out
    clear HX
    have HP : Hid (PSt w wl g bR bW d aN cN aE cE rg (playK ops k) k) := hP
    obtain ⟨c0, c1, z0, z1⟩ := hP.bw.two
    obtain ⟨r0, r1, y0, y1⟩ := hP.br.two
    have hlw := hP.bw.lt
    have hlr := hP.br.lt
    clear hP
    by_cases h6 : k < 60 ∧ k < ops.length
    · obtain ⟨h60, hlt⟩ := h6
      have hltI : (k : Int) < (ops.length : Int) := by omega
      have h60I : (k : Int) < 60 := by omega
      obtain ⟨b, off, aZ, cZ, rfl, hb, m0, m1, m2, m3, m4, hok⟩ := HS.out.at_ k hlt
      obtain ⟨o, ho⟩ : ∃ o, o = ops.getD k noOp := ⟨_, rfl⟩
      rw [← ho] at m0 m1 m2 m3 m4 hok
      have hbel := HP.out.ply.bel
      replace m0 := (hbel.cell (p := ⟨b, off + k * 5, none⟩) hb).trans m0
      replace m1 := (hbel.cell (p := ⟨b, off + k * 5 + 1, none⟩) hb).trans m1
      replace m2 := (hbel.cell (p := ⟨b, off + k * 5 + 2, none⟩) hb).trans m2
      replace m3 := (hbel.cell (p := ⟨b, off + k * 5 + 3, none⟩) hb).trans m3
      replace m4 := (hbel.cell (p := ⟨b, off + k * 5 + 4, none⟩) hb).trans m4
      have hbl : b < wl.heap.size := Nat.lt_of_lt_of_le hb hbel.size
      have HOK : Hid (o.zs.length ≤ 20 → OpOk w o aZ cZ) := hok
      have HO : Hid (playK ops (k + 1) = if o.zs.length ≤ 20 then stepA (playK ops k) o else playK ops k) := by show _ = _; rw [ho]; rfl
      clear hbel hok ho hb
      by_cases h20 : o.zs.length ≤ 20
      · have h20I : ¬ ((20 : Int) < (o.zs.length : Int)) := by omega
        have HQ : Hid (∀ wq, Below wl.heap.size wl wq → Calls Try.prog 12 #[.pointer (some ⟨g, 0, none⟩), .agg #[.slice aN d.t.nn cN, .slice aE d.f.ne cE], .agg #[.int .i64 o.kind, .string o.fn, .slice aZ o.zs.length cZ, .int .i64 o.a, .int .i64 o.b]] wq fun e w7 => ∃ (d' : Gd) (aN' aE' : Option Addr) (cN' cE' : Nat) (rg' : Nat → Value), e = .returned (.tuple #[.agg #[.slice aN' d'.t.nn cN', .slice aE' d'.f.ne cE'], .bool true]) ∧ w7.cell? ⟨bW, 0, none⟩ = some (.slice aN d.t.nn cN) ∧ w7.cell? ⟨bW, 1, none⟩ = some (.slice aE d.f.ne cE) ∧ w7.frozen? ⟨bW, 0, none⟩ = false ∧ w7.frozen? ⟨bW, 1, none⟩ = false ∧ bW < w7.heap.size ∧ Hid (PSt w ((w7.setCell ⟨bW, 0, none⟩ (.slice aN' d'.t.nn cN')).setCell ⟨bW, 1, none⟩ (.slice aE' d'.f.ne cE')) g bR bW d' aN' cN' aE' cE' rg' (playK ops (k + 1)) (k + 1))) := by
          intro wq hq
          have hq' := HP.out.below hq
          refine (lstep_any w g d aN aE cN cE rg k (playK ops k) o aZ cZ wq hq'.ply hq'.abs (HOK.out h20) (by omega)).mono ?_
          rintro e w7 ⟨d', aN', aE', cN', cE', rg', rfl, k1, k2, k3⟩
          have bw := blk_mv hq'.bw k2.mv hq'.fw.1
          obtain ⟨b0, b1, b2, b3⟩ := bw.two
          refine ⟨d', aN', aE', cN', cE', rg', rfl, b0, b1, b2, b3, bw.lt, ?_⟩
          show PSt _ _ _ _ _ _ _ _ _ _ _ _ _
          rw [HO.out, if_pos h20]
          exact hq'.next k1 k2 k3
        clear HO HOK
        go_wp2
        go_cut [7] (fun v7 wx => v7 = .bool true ∧ Hid (∃ (d : Gd) (aN : Option Addr) (cN : Nat) (aE : Option Addr) (cE : Nat) (rg : Nat → Value), PSt w wx g bR bW d aN cN aE cE rg (playK ops (k + 1)) (k + 1)))
        case first =>
          go_region_with (go_at_call 12; refine (HQ.out _ ?_).mono ?_; go_grown; rintro e w7 ⟨d', aN', aE', cN', cE', rg', rfl, q0, q1, q2, q3, q4, HF⟩)
          all_goals (go_wp2_with fail; go_meet; exact ⟨rfl, ⟨d', aN', cN', aE', cE', rg', HF.out.below ⟨rfl, rfl, rfl, Nat.le_refl _, fun _ _ => rfl⟩⟩⟩)
        case rest =>
          obtain ⟨rfl, HX⟩ := hcut
          go_wp2
          go_roundw
          case rel => exact ⟨k + 1, by go_num, rfl, by omega, by omega, HX⟩
          case measure => simp [intOf]; omega
      · have h20I : (20 : Int) < (o.zs.length : Int) := by omega
        go_wp2
        go_roundw
        case rel => exact ⟨k + 1, by go_num, rfl, by omega, by omega, ⟨d, aN, cN, aE, cE, rg, by rw [HO.out, if_neg h20]; exact HP.out.more⟩⟩
        case measure => simp [intOf]; omega
    · have HK : Hid (playK ops k = playA ops) := by
        show _ = _
        unfold playA
        congr 1
        omega
      obtain ⟨W3, hW3⟩ : ∃ W3, W3 = (wl.setCell ⟨bR, 0, none⟩ (.slice aN d.t.nn cN)).setCell ⟨bR, 1, none⟩ (.slice aE d.f.ne cE) := ⟨_, rfl⟩
      have HW3 : Hid (W3.heap.size = wl.heap.size) := by show _ = _; rw [hW3]; simp
      have HP3 : Hid (PlayEnd w (playA ops) (.returned (.tuple #[.pointer (some ⟨g, 0, none⟩), .agg #[.slice aN d.t.nn cN, .slice aE d.f.ne cE], .bool true])) W3 ∧ GW W3 g d ∧ Blk 28 W3 bW #[.slice aN d.t.nn cN, .slice aE d.f.ne cE] ∧ Ply w W3 g d (.slice aN d.t.nn cN) (.slice aE d.f.ne cE) rg 60) := by
        have hP := HP.out
        have hA := hP.abs
        rw [HK.out] at hA
        have oth : ∀ b, b ≠ bR → W3.heap[b]? = wl.heap[b]? := fun b hb => by rw [hW3, heap_setCell_other _ ⟨bR, 1, none⟩ b _ hb, heap_setCell_other _ ⟨bR, 0, none⟩ b _ hb]
        have hp : Ply w wl g d (.slice aN d.t.nn cN) (.slice aE d.f.ne cE) rg 60 := { hP.ply with nn := Nat.le_trans hP.ply.nn hk6, ne := Nat.le_trans hP.ply.ne hk6, np := Nat.le_trans hP.ply.np (by omega) }
        have hp3 : Ply w W3 g d (.slice aN d.t.nn cN) (.slice aE d.f.ne cE) rg 60 := hp.put (by rw [hW3]; exact below_store2 (Below.refl _ _) hP.new.1 _ _) (fun b hb => oth b (fun e => hP.fr.1 (e ▸ hb))) (fun b hb => oth b (fun e => hP.fr.2 (e ▸ hb)))
        exact ⟨⟨g, d, aN, aE, cN, cE, rg, rfl, hp3, hA⟩, hp3.gw, (oth bW hP.new.2.2).trans hP.bw, hp3⟩
      have HEND : Hid (∀ wr, Below wl.heap.size W3 wr → PlayEnd w (playA ops) (.returned (.tuple #[.pointer (some ⟨g, 0, none⟩), .agg #[.slice aN d.t.nn cN, .slice aE d.f.ne cE], .bool true])) wr) := by
        intro wr hb
        rw [← HW3.out] at hb
        have hA := HP.out.abs
        rw [HK.out] at hA
        exact ⟨g, d, aN, aE, cN, cE, rg, rfl, HP3.out.2.2.2.below hb, hA⟩
      have HG : Hid (∀ wr, Below wl.heap.size wl wr ∨ Below wl.heap.size W3 wr → GW wr g d ∧ Blk 28 wr bW #[.slice aN d.t.nn cN, .slice aE d.f.ne cE]) := by
        intro wr h
        rcases h with h | h
        · exact ⟨HP.out.ply.gw.below h, HP.out.bw.stay h⟩
        · rw [← HW3.out] at h; exact ⟨HP3.out.2.1.below h, HP3.out.2.2.1.stay h⟩
      have HM : Hid (∀ wr, Below wl.heap.size wl wr ∨ Below wl.heap.size W3 wr → wr.cell? ⟨bW, 0, none⟩ = some (.slice aN d.t.nn cN) ∧ wr.cell? ⟨bW, 1, none⟩ = some (.slice aE d.f.ne cE) ∧ bW < wr.heap.size) := fun wr h => ⟨(HG.out wr h).2.two.1, (HG.out wr h).2.two.2.1, (HG.out wr h).2.lt⟩
      have HLN : Hid (∀ wr, Below wl.heap.size wl wr ∨ Below wl.heap.size W3 wr → Calls Try.prog 13 #[.pointer (some ⟨g, 0, none⟩)] wr fun e w' => e = .returned (.int .i64 (d.t.nn : Nat)) ∧ Below wr.heap.size wr w') := fun wr h => Len_any g d wr (HG.out wr h).1 (by have := HP.out.ply.nn; omega)
      have HEQ : Hid (∀ wr, Below wl.heap.size wl wr ∨ Below wl.heap.size W3 wr → Calls Try.prog 14 #[.pointer (some ⟨g, 0, none⟩)] wr fun e w' => e = .returned (.int .i64 (d.f.ne : Nat)) ∧ Below wr.heap.size wr w') := fun wr h => Equations_any g d wr (HG.out wr h).1
      have HST : Hid (∀ wr, Below wl.heap.size wl wr → Below wl.heap.size W3 ((wr.setCell ⟨bR, 0, none⟩ (.slice aN d.t.nn cN)).setCell ⟨bR, 1, none⟩ (.slice aE d.f.ne cE))) := fun wr h => by show Below _ _ _; rw [hW3]; exact (Below.both (Below.both h ⟨bR, 0, none⟩ _ hlr) ⟨bR, 1, none⟩ _ hlr)
      have HFR : Hid (∀ wr, Below wl.heap.size wl wr → wr.cell? ⟨bR, 0, none⟩ = some (.slice none 0 0) ∧ wr.cell? ⟨bR, 1, none⟩ = some (.slice none 0 0) ∧ wr.frozen? ⟨bR, 0, none⟩ = false ∧ wr.frozen? ⟨bR, 1, none⟩ = false ∧ bR < wr.heap.size) := fun wr h => by have b2 := HP.out.br.stay h; exact ⟨b2.two.1, b2.two.2.1, b2.two.2.2.1, b2.two.2.2.2, b2.lt⟩
      have HR3 : Hid (∀ wr, Below wl.heap.size W3 wr → wr.cell? ⟨bR, 0, none⟩ = some (.slice aN d.t.nn cN) ∧ wr.cell? ⟨bR, 1, none⟩ = some (.slice aE d.f.ne cE)) := by
        intro wr h
        have k := (Blk.set HP.out.br 0 (.slice aN d.t.nn cN)).set 1 (.slice aE d.f.ne cE)
        have k2 : Blk 28 W3 bR #[.slice aN d.t.nn cN, .slice aE d.f.ne cE] := by rw [hW3]; simpa using k
        rw [← HW3.out] at h
        have k3 := k2.stay h
        exact ⟨k3.two.1, k3.two.2.1⟩
      clear HP3 HG hW3
      clear HK HP HS
      go_upto_region 7 with fail
      go_cut [20] (fun v20 wx => v20 = .bool false ∧ wx = wl)
      case first =>
        clear c0 c1 z0 z1 r0 r1 y0 y1 HLN HEQ HEND HM HST HFR HR3
        by_cases hlt : k < ops.length
        · have hltI : (k : Int) < (ops.length : Int) := by omega
          have h60I : ¬ ((k : Int) < 60) := by omega
          clear h6
          go_wp2_with fail
          go_meet
          exact ⟨rfl, rfl⟩
        · have hltI : ¬ ((k : Int) < (ops.length : Int)) := by omega
          clear h6
          go_wp2_with fail
          go_meet
          exact ⟨rfl, rfl⟩
      case rest =>
        obtain ⟨rfl, hwx⟩ := hcut
        replace hwx := hwx.symm
        subst hwx
        clear h6 hk hk6 c0 c1 z0 z1 r0 r1 y0 y1
        go_wp2
        -- region 13
        refine wp_region_E (by kernel_rfl) [some 44, some 45, some 46, some 47, some 48, some 49, some 50, some 51, some 52, some 53, some 54, some 55, some 56, some 57, some 58, some 59, some 2, none, some 4] [none, none, some 2, none, some 4, none, none, none, none, none, none, none, none, none, none, none, none, none, none, none, none, none, none, none, none, none, none, none, none, none, none, none, none, none, none, none, none, none, none, none, none, none, none, none, some 44, some 45, some 46, some 47, some 48, some 49, some 50, some 51, some 52, some 53, some 54, some 55, some 56, some 57, some 58, some 59] (fun U => by kernel_rfl) [fun u => u = (.pointer (some ⟨g, 0, none⟩)), fun u => u = (.agg #[.slice aN d.t.nn cN, .slice aE d.f.ne cE]), fun u => u = (.pointer (some ⟨g, 0, none⟩)), fun u => u = (.int .i64 (d.t.nn : Nat)), fun u => u = (.pointer (some ⟨bW, 0, none⟩)), fun u => u = (.slice aN d.t.nn cN), fun u => u = (.int .i64 (d.t.nn : Nat)), fun u => u = (.bool true), fun u => u = (.bool true), fun u => u = (.pointer (some ⟨g, 0, none⟩)), fun u => u = (.int .i64 (d.f.ne : Nat)), fun u => u = (.pointer (some ⟨bW, 1, none⟩)), fun u => u = (.slice aE d.f.ne cE), fun u => u = (.int .i64 (d.f.ne : Nat)), fun u => u = (.bool true), fun u => u = (.bool true), fun u => u = (.pointer (some ⟨g, 0, none⟩)), fun _ => True, fun u => u = (.bool true)] (fun L U wr => (L 17 = false → Below wl.heap.size wl wr) ∧ (L 17 = true → (L 1 = true) ∧ Below wl.heap.size W3 wr)) (by kernel_rfl) (by decide) (by kernel_rfl) (by kernel_rfl) ?_ ?_ ?_
        · exact fun U => ⟨fun _ => (Below.refl _ _).drew, (fun h => by cases h)⟩
        · refine StepsE.run rfl ?_ ?_
          · intro L U wr hC hP hlk hcl haf A K hFm hK
            simp [Aft, Region.binds] at haf
            have e5 : A.tmps[5]? = some (.pointer (some ⟨g, 0, none⟩)) := (hFm.old 5 (by decide)).trans (by kernel_rfl)
            have HC : Hid _ := hC
            clear hC
            refine ⟨?_⟩
            go_simp
            refine hK _ _ rfl ?_
            obtain ⟨c0, cS⟩ := HC.out
            refine ⟨fun h => c0 (by simpa using h), fun h => ?_⟩
            have h9 := cS (by simpa using h)
            exact ⟨by simp [h9.1], h9.2⟩
          refine StepsE.run rfl ?_ ?_
          · intro L U wr hC hP hlk hcl haf A K hFm hK
            simp [Aft, Region.binds] at haf
            have e6 : A.tmps[6]? = some (.pointer (some ⟨bW, 0, none⟩)) := (hFm.old 6 (by decide)).trans (by kernel_rfl)
            have hM8 : Below wl.heap.size wl wr ∨ Below wl.heap.size W3 wr := by
              cases h : L 17 with
              | false => exact Or.inl (hC.1 h)
              | true => exact Or.inr (hC.2 h).2
            obtain ⟨m70, m71, m72⟩ := HM.out wr hM8
            clear hM8
            have HC : Hid _ := hC
            clear hC
            refine ⟨?_⟩
            go_simp
            refine hK _ _ rfl ?_
            obtain ⟨c0, cS⟩ := HC.out
            refine ⟨fun h => c0 (by simpa using h), fun h => ?_⟩
            have h9 := cS (by simpa using h)
            exact ⟨by simp [h9.1], h9.2⟩
          refine StepsE.run rfl ?_ ?_
          · intro L U wr hC hP hlk hcl haf A K hFm hK
            simp [Aft, Region.binds] at haf
            have e5 : A.tmps[5]? = some (.pointer (some ⟨g, 0, none⟩)) := (hFm.old 5 (by decide)).trans (by kernel_rfl)
            have HC : Hid _ := hC
            clear hC
            refine ⟨?_⟩
            go_simp
            refine hK _ _ rfl ?_
            obtain ⟨c0, cS⟩ := HC.out
            refine ⟨fun h => c0 (by simpa using h), fun h => ?_⟩
            have h9 := cS (by simpa using h)
            exact ⟨by simp [h9.1], h9.2⟩
          refine StepsE.run rfl ?_ ?_
          · intro L U wr hC hP hlk hcl haf A K hFm hK
            simp [Aft, Region.binds] at haf
            have g2 : U 46 = (.pointer (some ⟨g, 0, none⟩)) := hP 2 46 (by simp [haf]) rfl
            have e46 : A.tmps[46]? = some (.pointer (some ⟨g, 0, none⟩)) := hFm.is 2 46 rfl g2
            have hM8 : Below wl.heap.size wl wr ∨ Below wl.heap.size W3 wr := by
              cases h : L 17 with
              | false => exact Or.inl (hC.1 h)
              | true => exact Or.inr (hC.2 h).2
            refine ⟨?_⟩
            have HCr : Hid _ := hC
            clear hC
            go_simp
            refine (HLN.out wr hM8).mono ?_
            rintro e w9 ⟨rfl, hb9⟩
            go_simp
            refine hK _ _ rfl ⟨fun h => ?_, fun h => ?_⟩
            · have h9 := HCr.out.1 (by simpa using h)
              exact h9.trans (hb9.mono h9.size)
            · have h9 := HCr.out.2 (by simpa using h)
              refine ⟨by simp [h9.1], h9.2.trans (hb9.mono ?_)⟩
              have := h9.2.size
              rw [HW3.out] at this
              exact this
          refine StepsE.run rfl ?_ ?_
          · intro L U wr hC hP hlk hcl haf A K hFm hK
            simp [Aft, Region.binds] at haf
            have e6 : A.tmps[6]? = some (.pointer (some ⟨bW, 0, none⟩)) := (hFm.old 6 (by decide)).trans (by kernel_rfl)
            have hM8 : Below wl.heap.size wl wr ∨ Below wl.heap.size W3 wr := by
              cases h : L 17 with
              | false => exact Or.inl (hC.1 h)
              | true => exact Or.inr (hC.2 h).2
            obtain ⟨m70, m71, m72⟩ := HM.out wr hM8
            clear hM8
            have HC : Hid _ := hC
            clear hC
            refine ⟨?_⟩
            go_simp
            refine hK _ _ rfl ?_
            obtain ⟨c0, cS⟩ := HC.out
            refine ⟨fun h => c0 (by simpa using h), fun h => ?_⟩
            have h9 := cS (by simpa using h)
            exact ⟨by simp [h9.1], h9.2⟩
          refine StepsE.run rfl ?_ ?_
          · intro L U wr hC hP hlk hcl haf A K hFm hK
            simp [Aft, Region.binds] at haf
            have g4 : U 48 = (.pointer (some ⟨bW, 0, none⟩)) := hP 4 48 (by simp [haf]) rfl
            have e48 : A.tmps[48]? = some (.pointer (some ⟨bW, 0, none⟩)) := hFm.is 4 48 rfl g4
            have hM8 : Below wl.heap.size wl wr ∨ Below wl.heap.size W3 wr := by
              cases h : L 17 with
              | false => exact Or.inl (hC.1 h)
              | true => exact Or.inr (hC.2 h).2
            obtain ⟨m70, m71, m72⟩ := HM.out wr hM8
            clear hM8
            have HC : Hid _ := hC
            clear hC
            refine ⟨?_⟩
            go_simp
            refine hK _ _ rfl ?_
            obtain ⟨c0, cS⟩ := HC.out
            refine ⟨fun h => c0 (by simpa using h), fun h => ?_⟩
            have h9 := cS (by simpa using h)
            exact ⟨by simp [h9.1], h9.2⟩
          refine StepsE.run rfl ?_ ?_
          · intro L U wr hC hP hlk hcl haf A K hFm hK
            simp [Aft, Region.binds] at haf
            have g5 : U 49 = (.slice aN d.t.nn cN) := hP 5 49 (by simp [haf]) rfl
            have e49 : A.tmps[49]? = some (.slice aN d.t.nn cN) := hFm.is 5 49 rfl g5
            have HC : Hid _ := hC
            clear hC
            refine ⟨?_⟩
            go_simp
            refine hK _ _ rfl ?_
            obtain ⟨c0, cS⟩ := HC.out
            refine ⟨fun h => c0 (by simpa using h), fun h => ?_⟩
            have h9 := cS (by simpa using h)
            exact ⟨by simp [h9.1], h9.2⟩
          refine StepsE.run rfl ?_ ?_
          · intro L U wr hC hP hlk hcl haf A K hFm hK
            simp [Aft, Region.binds] at haf
            have g3 : U 47 = (.int .i64 (d.t.nn : Nat)) := hP 3 47 (by simp [haf]) rfl
            have e47 : A.tmps[47]? = some (.int .i64 (d.t.nn : Nat)) := hFm.is 3 47 rfl g3
            have g6 : U 50 = (.int .i64 (d.t.nn : Nat)) := hP 6 50 (by simp [haf]) rfl
            have e50 : A.tmps[50]? = some (.int .i64 (d.t.nn : Nat)) := hFm.is 6 50 rfl g6
            have HC : Hid _ := hC
            clear hC
            refine ⟨?_⟩
            go_simp
            refine hK _ _ rfl ?_
            obtain ⟨c0, cS⟩ := HC.out
            refine ⟨fun h => c0 (by simpa using h), fun h => ?_⟩
            have h9 := cS (by simpa using h)
            exact ⟨by simp [h9.1], h9.2⟩
          refine StepsE.run rfl ?_ ?_
          · intro L U wr hC hP hlk hcl haf A K hFm hK
            simp [Aft, Region.binds] at haf
            have g7 : U 51 = (.bool true) := hP 7 51 (by simp [haf]) rfl
            have e51 : A.tmps[51]? = some (.bool true) := hFm.is 7 51 rfl g7
            have HC : Hid _ := hC
            clear hC
            refine ⟨?_⟩
            go_simp
            refine hK _ _ rfl ?_
            obtain ⟨c0, cS⟩ := HC.out
            refine ⟨fun h => c0 (by simpa using h), fun h => ?_⟩
            have h9 := cS (by simpa using h)
            exact ⟨by simp [h9.1], h9.2⟩
          refine StepsE.runG 8 52 true rfl rfl rfl (fun L h => by simp [Aft, Region.binds] at h; simp [h]) (fun u h => h) ?_ ?_
          · intro L U wr hC hP hlk hcl haf A K hFm hK
            simp [Aft, Region.binds] at haf
            have e5 : A.tmps[5]? = some (.pointer (some ⟨g, 0, none⟩)) := (hFm.old 5 (by decide)).trans (by kernel_rfl)
            have HC : Hid _ := hC
            clear hC
            refine ⟨?_⟩
            go_simp
            refine hK _ _ rfl ?_
            obtain ⟨c0, cS⟩ := HC.out
            refine ⟨fun h => c0 (by simpa using h), fun h => ?_⟩
            have h9 := cS (by simpa using h)
            exact ⟨by simp [h9.1], h9.2⟩
          refine StepsE.runG 8 52 true rfl rfl rfl (fun L h => by simp [Aft, Region.binds] at h; simp [h]) (fun u h => h) ?_ ?_
          · intro L U wr hC hP hlk hcl haf A K hFm hK
            simp [Aft, Region.binds] at haf
            have g9 : U 53 = (.pointer (some ⟨g, 0, none⟩)) := hP 9 53 (by simp [haf]) rfl
            have e53 : A.tmps[53]? = some (.pointer (some ⟨g, 0, none⟩)) := hFm.is 9 53 rfl g9
            have hM8 : Below wl.heap.size wl wr ∨ Below wl.heap.size W3 wr := by
              cases h : L 17 with
              | false => exact Or.inl (hC.1 h)
              | true => exact Or.inr (hC.2 h).2
            refine ⟨?_⟩
            have HCr : Hid _ := hC
            clear hC
            go_simp
            refine (HEQ.out wr hM8).mono ?_
            rintro e w9 ⟨rfl, hb9⟩
            go_simp
            refine hK _ _ rfl ⟨fun h => ?_, fun h => ?_⟩
            · have h9 := HCr.out.1 (by simpa using h)
              exact h9.trans (hb9.mono h9.size)
            · have h9 := HCr.out.2 (by simpa using h)
              refine ⟨by simp [h9.1], h9.2.trans (hb9.mono ?_)⟩
              have := h9.2.size
              rw [HW3.out] at this
              exact this
          refine StepsE.runG 8 52 true rfl rfl rfl (fun L h => by simp [Aft, Region.binds] at h; simp [h]) (fun u h => h) ?_ ?_
          · intro L U wr hC hP hlk hcl haf A K hFm hK
            simp [Aft, Region.binds] at haf
            have e6 : A.tmps[6]? = some (.pointer (some ⟨bW, 0, none⟩)) := (hFm.old 6 (by decide)).trans (by kernel_rfl)
            have hM8 : Below wl.heap.size wl wr ∨ Below wl.heap.size W3 wr := by
              cases h : L 17 with
              | false => exact Or.inl (hC.1 h)
              | true => exact Or.inr (hC.2 h).2
            obtain ⟨m70, m71, m72⟩ := HM.out wr hM8
            clear hM8
            have HC : Hid _ := hC
            clear hC
            refine ⟨?_⟩
            go_simp
            refine hK _ _ rfl ?_
            obtain ⟨c0, cS⟩ := HC.out
            refine ⟨fun h => c0 (by simpa using h), fun h => ?_⟩
            have h9 := cS (by simpa using h)
            exact ⟨by simp [h9.1], h9.2⟩
          refine StepsE.runG 8 52 true rfl rfl rfl (fun L h => by simp [Aft, Region.binds] at h; simp [h]) (fun u h => h) ?_ ?_
          · intro L U wr hC hP hlk hcl haf A K hFm hK
            simp [Aft, Region.binds] at haf
            have g11 : U 55 = (.pointer (some ⟨bW, 1, none⟩)) := hP 11 55 (by simp [haf]) rfl
            have e55 : A.tmps[55]? = some (.pointer (some ⟨bW, 1, none⟩)) := hFm.is 11 55 rfl g11
            have hM8 : Below wl.heap.size wl wr ∨ Below wl.heap.size W3 wr := by
              cases h : L 17 with
              | false => exact Or.inl (hC.1 h)
              | true => exact Or.inr (hC.2 h).2
            obtain ⟨m70, m71, m72⟩ := HM.out wr hM8
            clear hM8
            have HC : Hid _ := hC
            clear hC
            refine ⟨?_⟩
            go_simp
            refine hK _ _ rfl ?_
            obtain ⟨c0, cS⟩ := HC.out
            refine ⟨fun h => c0 (by simpa using h), fun h => ?_⟩
            have h9 := cS (by simpa using h)
            exact ⟨by simp [h9.1], h9.2⟩
          refine StepsE.runG 8 52 true rfl rfl rfl (fun L h => by simp [Aft, Region.binds] at h; simp [h]) (fun u h => h) ?_ ?_
          · intro L U wr hC hP hlk hcl haf A K hFm hK
            simp [Aft, Region.binds] at haf
            have g12 : U 56 = (.slice aE d.f.ne cE) := hP 12 56 (by simp [haf]) rfl
            have e56 : A.tmps[56]? = some (.slice aE d.f.ne cE) := hFm.is 12 56 rfl g12
            have HC : Hid _ := hC
            clear hC
            refine ⟨?_⟩
            go_simp
            refine hK _ _ rfl ?_
            obtain ⟨c0, cS⟩ := HC.out
            refine ⟨fun h => c0 (by simpa using h), fun h => ?_⟩
            have h9 := cS (by simpa using h)
            exact ⟨by simp [h9.1], h9.2⟩
          refine StepsE.runG 8 52 true rfl rfl rfl (fun L h => by simp [Aft, Region.binds] at h; simp [h]) (fun u h => h) ?_ ?_
          · intro L U wr hC hP hlk hcl haf A K hFm hK
            simp [Aft, Region.binds] at haf
            have g10 : U 54 = (.int .i64 (d.f.ne : Nat)) := hP 10 54 (by simp [haf]) rfl
            have e54 : A.tmps[54]? = some (.int .i64 (d.f.ne : Nat)) := hFm.is 10 54 rfl g10
            have g13 : U 57 = (.int .i64 (d.f.ne : Nat)) := hP 13 57 (by simp [haf]) rfl
            have e57 : A.tmps[57]? = some (.int .i64 (d.f.ne : Nat)) := hFm.is 13 57 rfl g13
            have HC : Hid _ := hC
            clear hC
            refine ⟨?_⟩
            go_simp
            refine hK _ _ rfl ?_
            obtain ⟨c0, cS⟩ := HC.out
            refine ⟨fun h => c0 (by simpa using h), fun h => ?_⟩
            have h9 := cS (by simpa using h)
            exact ⟨by simp [h9.1], h9.2⟩
          refine StepsE.run rfl ?_ ?_
          · intro L U wr hC hP hlk hcl haf A K hFm hK
            simp [Aft, Region.binds] at haf
            have g8 : U 52 = (.bool true) := hP 8 52 (by simp [haf]) rfl
            have e52 : A.tmps[52]? = some (.bool true) := hFm.is 8 52 rfl g8
            have g14 : U 58 = (.bool true) := hP 14 58 (by simp [haf]) rfl
            have e58 : A.tmps[58]? = some (.bool true) := hFm.is 14 58 rfl g14
            have HC : Hid _ := hC
            clear hC
            refine ⟨?_⟩
            go_simp
            refine hK _ _ rfl ?_
            obtain ⟨c0, cS⟩ := HC.out
            refine ⟨fun h => c0 (by simpa using h), fun h => ?_⟩
            have h9 := cS (by simpa using h)
            exact ⟨by simp [h9.1], h9.2⟩
          refine StepsE.run rfl ?_ ?_
          · intro L U wr hC hP hlk hcl haf A K hFm hK
            simp [Aft, Region.binds] at haf
            have g0 : U 44 = (.pointer (some ⟨g, 0, none⟩)) := hP 0 44 (by simp [haf]) rfl
            have e44 : A.tmps[44]? = some (.pointer (some ⟨g, 0, none⟩)) := hFm.is 0 44 rfl g0
            have HC : Hid _ := hC
            clear hC
            refine ⟨?_⟩
            go_simp
            refine hK _ _ rfl ?_
            obtain ⟨c0, cS⟩ := HC.out
            refine ⟨fun h => c0 (by simpa using h), fun h => ?_⟩
            have h9 := cS (by simpa using h)
            exact ⟨by simp [h9.1], h9.2⟩
          refine StepsE.run rfl ?_ ?_
          · intro L U wr hC hP hlk hcl haf A K hFm hK
            simp [Aft, Region.binds] at haf
            have g1 : U 45 = (.agg #[.slice aN d.t.nn cN, .slice aE d.f.ne cE]) := hP 1 45 (by simp [haf]) rfl
            have e45 : A.tmps[45]? = some (.agg #[.slice aN d.t.nn cN, .slice aE d.f.ne cE]) := hFm.is 1 45 rfl g1
            have e3 : A.tmps[3]? = some (.pointer (some ⟨bR, 0, none⟩)) := (hFm.old 3 (by decide)).trans (by kernel_rfl)
            refine ⟨?_⟩
            have hC1 := hC.1 hlk
            have l1 : L 1 = true := by simp [haf]
            have HKK : Hid _ := HST.out wr hC1
            obtain ⟨k0, k1, k2, k3, k4⟩ := HFR.out wr hC1
            clear hC hC1
            go_simp
            exact hK (.tuple #[]) _ trivial ⟨(fun h => by simp at h), fun _ => ⟨by simp [l1], HKK.out⟩⟩
          refine StepsE.run rfl ?_ StepsE.nil
          · intro L U wr hC hP hlk hcl haf A K hFm hK
            simp [Aft, Region.binds] at haf
            have g15 : U 59 = (.bool true) := hP 15 59 (by simp [haf]) rfl
            have e59 : A.tmps[59]? = some (.bool true) := hFm.is 15 59 rfl g15
            have HC : Hid _ := hC
            clear hC
            refine ⟨?_⟩
            go_simp
            refine hK _ _ rfl ?_
            obtain ⟨c0, cS⟩ := HC.out
            refine ⟨fun h => c0 (by simpa using h), fun h => ?_⟩
            have h9 := cS (by simpa using h)
            exact ⟨by simp [h9.1], h9.2⟩
        intro L U5 V5 hall hC hP
        have HBW : Hid _ := (hC.2 (hall 17 (by decide))).2
        have e2 : U5 2 = .pointer (some ⟨g, 0, none⟩) := hP 16 2 rfl
        have e4 : U5 4 = .bool true := hP 18 4 rfl
        simp only [setM_some, setM_none, setM_nil]
        rw [e2, e4]
        clear hC hP hall e2 e4 HLN HEQ HST HFR HM
        obtain ⟨r0, r1⟩ := HR3.out V5 HBW.out
        go_wp2
        refine bodyPost_ret (v := .tuple #[.pointer (some ⟨g, 0, none⟩), .agg #[.slice aN d.t.nn cN, .slice aE d.f.ne cE], .bool true]) (by simp [results, Try.results5, go_sem, r0, r1]) rfl ?_
        exact HEND.out _ HBW.out
end Euf
end Go.Proofs.Ytmnpefiaelpkfac
