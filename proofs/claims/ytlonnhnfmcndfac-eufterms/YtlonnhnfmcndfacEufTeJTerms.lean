/- The walk of EufTerms; no statement of the seat is proved here. -/
import Derived.Test.YtlonnhnfmcndfacEufAxJTerms
import Derived.Test.YtlonnhnfmcndfacEufCdJTerms
namespace Go.Proofs.Ytlonnhnfmcndfac
open Go.RowKit
set_option linter.unusedVariables false
namespace Euf
/-- A node that is there is found again. -/
theorem node_again {w0 wr : World} {g : Nat} {d : Gd} {vN vE : Value} {rg : Nat → Value} {bW : Nat} {vL : Value} {k : Nat} {lf : Nat → Nat} (h : Lw w0 wr g d d vN vE rg bW vL k lf) {i : Nat} (hi : i < d.t.nn) (hfn : (d.t.N i).1.size ≤ maxLen) (hal : (d.t.N i).2.length ≤ 20) (hnn : d.t.nn ≤ 60) (hnp : d.f.np ≤ 1260) {aZ : Option Addr} {cZ : Nat} (hr : rg i = .slice aZ (d.t.N i).2.length cZ) :
    Calls Try.prog 15 #[.pointer (some ⟨g, 0, none⟩), .string (d.t.N i).1, .slice aZ (d.t.N i).2.length cZ] wr fun e w' => e = .returned (.tuple #[.int .i64 (i : Nat), .int .i64 0]) ∧ Below wr.heap.size wr w' := by
  have ha := h.r.args i hi
  rw [hr] at ha
  refine (Node_all g d (d.t.N i).1 (d.t.N i).2 aZ cZ wr h.gw h.sem.ok.t hfn (by omega) ha.seg (fun _ b off e hf => ?_) (fun b hb => ?_) (by omega) (by omega)).mono ?_
  · refine (h.apZ b (Or.inr (Or.inr ⟨i, hi, ?_⟩))).1 (fn_fh hf)
    rw [hr, e]
    obtain ⟨a1, c1, e1, -, -, -, e5⟩ := ha.shape
    injection e1 with e1
    rw [← e1] at e5
    have := e5 _ e
    simp at this
    subst this
    rfl
  · have := h.sem.ok.t.args i hi b hb; omega
  rintro e w' ⟨r, rfl, hend⟩
  rcases hend with ⟨h1, h2, h3⟩ | ⟨_, h2, _⟩
  · obtain rfl := h.sem.ok.t.Ninj h1 hi h2
    exact ⟨rfl, h3⟩
  · exact absurd rfl (h2 i hi)

set_option maxRecDepth 20000 in
set_option maxHeartbeats 16000000 in
theorem eufTerms_by (hplay : PlayLaw) (aS : Option Addr) (cS : Nat) (ops : List OpS) (at_ : Int) (w : World) (hS : Scr w aS ops) (hl : ops.length ≤ maxLen) :
    Calls Try.prog 4 #[.slice aS ops.length cS, .int .i64 at_] w fun e w' => e = .returned (.bool true) ∧ Below w.heap.size w w' := by
  have HPL : Hid PlayLaw := hplay
  have HS : Hid (Scr w aS ops ∧ ops.length ≤ maxLen) := ⟨hS, hl⟩
  clear hplay hS hl
  go_enter Try.func4, Try.ntmps4
  go_wp2_with fail
  refine (awake_by HPL.out w).mono ?_
  rintro e w1 ⟨rfl, hb1⟩
  go_wp2_with fail
  refine (HPL.out aS cS ops w1 (HS.out.1.below hb1) HS.out.2).mono ?_
  rintro e w2 ⟨g, d, aN, aE, cN, cE, rg, rfl, hP, hA⟩
  have HB1 : Hid (Below w.heap.size w w1) := hb1
  have HD : Hid (d.t.nn ≤ 60 ∧ d.f.np ≤ 1260 ∧ GSem d ∧ (∀ i, i < d.t.nn → (d.t.N i).2.length ≤ 20) ∧ (∀ i, i < d.t.nn → (d.t.N i).1.size ≤ maxLen)) := ⟨hP.nn, hP.np, hP.sem, hP.al, fun i hi => Abs.fn HS.out.1 hA hi⟩
  have hlw := hP.lw
  have hd6 : d.t.nn ≤ 60 := hP.nn
  clear hb1 HPL HS hA hP
  obtain ⟨W2, hW2⟩ : ∃ W2, W2 = w2.alloc (.cells #[.slice aN d.t.nn cN, .slice aE d.f.ne cE] 28 (0, 0)) := ⟨_, rfl⟩
  obtain ⟨bW, hbW⟩ : ∃ bW, bW = w2.heap.size := ⟨_, rfl⟩
  rw [← hW2, ← hbW] at hlw
  have HLW : Hid (Lw w1 W2 g d d (.slice aN d.t.nn cN) (.slice aE d.f.ne cE) rg bW (.slice none 0 0) 0 (fun _ => 0)) := hlw
  clear hlw
  go_wp2_with fail
  rw [← hW2, ← hbW]
  clear hW2 hbW
  cases hok : okIn d.t.nn at_ with
  | false =>
    have HOK : Hid (okIn d.t.nn at_ = false) := hok
    refine (At_bad g d at_ W2 HLW.out.gw hok (by omega)).mono ?_
    rintro e w3 ⟨rfl, hb3⟩
    have h3 := HLW.out.below hb3
    obtain ⟨V, hV⟩ : ∃ V, V = w3.alloc (.cells #[.string { data := #[] }, .slice none 0 0] 43 (0, 0)) := ⟨_, rfl⟩
    have hbV : Below w3.heap.size w3 V := by rw [hV]; go_grown
    have H3 : Hid (Lw w1 V g d d (.slice aN d.t.nn cN) (.slice aE d.f.ne cE) rg bW (.slice none 0 0) 0 (fun _ => 0)) := h3.below hbV
    have k8 : Blk 43 V w3.heap.size #[.string { data := #[] }, .slice none 0 0] := by rw [hV]; exact heap_alloc_new w3 _
    obtain ⟨c0, c1, -, -⟩ := h3.bw.two
    have hlb := h3.bw.lt
    clear h3 hb3 hbV hok HLW
    go_wp2_with fail
    rw [← hV]
    obtain ⟨b8, hb8⟩ : ∃ b8, b8 = w3.heap.size := ⟨_, rfl⟩
    rw [← hb8] at k8 ⊢
    clear hV hb8
    refine (Is_any aN aE d.t.nn cN d.f.ne cE at_ V (by omega)).mono ?_
    rintro e w9 ⟨rfl, hb9⟩
    rw [HOK.out]
    have HL9 : Hid (Lw w1 w9 g d d (.slice aN d.t.nn cN) (.slice aE d.f.ne cE) rg bW (.slice none 0 0) 0 (fun _ => 0)) := H3.out.below hb9
    obtain ⟨q0, q1, -, -⟩ := (k8.stay hb9).two
    have hl8 := (k8.stay hb9).lt
    clear hb9 k8 H3 c0 c1 hlb
    go_wp2
    clear q0 q1 hl8
    go_loopw [10] (fun v10 wr => ∃ (i : Nat), v10 = .int .i64 (i : Nat) ∧ i ≤ d.t.nn ∧ Hid (Lw w1 wr g d d (.slice aN d.t.nn cN) (.slice aE d.f.ne cE) rg bW (.slice none 0 0) 0 (fun _ => 0))) (fun v _ => d.t.nn - (intOf v).toNat)
    case atStart => exact ⟨0, rfl, Nat.zero_le _, HL9.out⟩
    case round =>
      rename World => wl
      clear HL9 HOK
      obtain ⟨i, rfl, hi, H5⟩ := hrel
      obtain ⟨c0, c1, -, -⟩ := H5.out.bw.two
      have hlb := H5.out.bw.lt
      by_cases hli : i < d.t.nn
      · have hliI : (i : Int) < (d.t.nn : Int) := by omega
        obtain ⟨bN, cN', hvN, -, -⟩ := H5.out.r.nodes.open i hli
        injection hvN with hvN e2 e3
        clear e2
        subst hvN e3
        obtain ⟨aZ, cZ, hrg, -, -, -, -⟩ := (H5.out.r.args i hli).shape
        have HRG : Hid (rg i = .slice aZ (d.t.N i).2.length cZ) := hrg
        clear hrg
        go_wp2_with fail
        refine (At_any g d i wl H5.out.gw hli (by omega) (by have := HD.out.2.2.2.1 i hli; omega)).mono ?_
        rintro e w3 ⟨b9, rfl, hol, hsz, hb3⟩
        have h3 := H5.out.below hb3
        have HF9 : Hid (¬ Fh g d b9 ∧ b9 ≠ bW ∧ ¬ Fz (.slice (some ⟨bN, 0, none⟩) d.t.nn cN) (.slice aE d.f.ne cE) rg d.t.nn b9 ∧ w1.heap.size ≤ b9) := ⟨fun hf => by have := H5.out.gw.hlt hf; omega, by omega, fun hf => by have := H5.out.r.lt hf; omega, by have := H5.out.bel.size; omega⟩
        obtain ⟨V, hV⟩ : ∃ V, V = w3.alloc (.cells #[.string (d.t.N i).1, .slice (some ⟨b9, 0, none⟩) (d.t.N i).2.length (d.t.N i).2.length] 43 (0, 0)) := ⟨_, rfl⟩
        have hbV : Below w3.heap.size w3 V := by rw [hV]; go_grown
        have HLV : Hid (Lw w1 V g d d (.slice (some ⟨bN, 0, none⟩) d.t.nn cN) (.slice aE d.f.ne cE) rg bW (.slice none 0 0) 0 (fun _ => 0)) := h3.below hbV
        have HOV : Hid (OL 1 3 V (.slice (some ⟨b9, 0, none⟩) (d.t.N i).2.length (d.t.N i).2.length) (d.t.N i).2.length (natC (d.t.N i).2)) := hol.stay (fun b hb => hbV.block b (hol.lt hb))
        have k11 : Blk 43 V w3.heap.size #[.string (d.t.N i).1, .slice (some ⟨b9, 0, none⟩) (d.t.N i).2.length (d.t.N i).2.length] := by rw [hV]; exact heap_alloc_new w3 _
        have HK11 : Hid (Blk 43 V w3.heap.size #[.string (d.t.N i).1, .slice (some ⟨b9, 0, none⟩) (d.t.N i).2.length (d.t.N i).2.length]) := k11
        have HX0 : Hid (V.cell? ⟨w3.heap.size, 0, none⟩ = some (.string (d.t.N i).1)) := k11.two.1
        have HX1 : Hid (V.cell? ⟨w3.heap.size, 1, none⟩ = some (.slice (some ⟨b9, 0, none⟩) (d.t.N i).2.length (d.t.N i).2.length)) := k11.two.2.1
        have HXB : Hid (w3.heap.size < V.heap.size) := k11.lt
        have HMW : Hid (V.cell? ⟨bW, 0, none⟩ = some (.slice (some ⟨bN, 0, none⟩) d.t.nn cN)) := HLV.out.bw.two.1
        have HWB : Hid (bW < V.heap.size) := HLV.out.bw.lt
        have n0 := HLV.out.r.nodes.cell (i := i) hli (j := 0) (by omega)
        have n1 := HLV.out.r.nodes.cell (i := i) hli (j := 1) (by omega)
        simp only [Nat.add_zero, List.getElem?_cons_zero, List.getElem?_cons_succ] at n0 n1
        rw [HRG.out] at n1
        have HMF : Hid (V.cell? ⟨bN, i * 2, none⟩ = some (.string (d.t.N i).1)) := n0
        have HMA : Hid (V.cell? ⟨bN, i * 2 + 1, none⟩ = some (.slice aZ (d.t.N i).2.length cZ)) := n1
        have HNB : Hid (bN < V.heap.size) := HLV.out.r.nodes.lt rfl
        have HND : Hid (∀ wr, Below V.heap.size V wr → Calls Try.prog 15 #[.pointer (some ⟨g, 0, none⟩), .string (d.t.N i).1, .slice aZ (d.t.N i).2.length cZ] wr fun e w' => e = .returned (.tuple #[.int .i64 (i : Nat), .int .i64 0]) ∧ Below wr.heap.size wr w') := fun wr hb => node_again (HLV.out.below hb) hli (HD.out.2.2.2.2 i hli) (HD.out.2.2.2.1 i hli) HD.out.1 HD.out.2.1 HRG.out
        have HAL : Hid (∀ wr, Below V.heap.size V wr → Calls Try.prog 16 #[.slice (some ⟨b9, 0, none⟩) (d.t.N i).2.length (d.t.N i).2.length, .slice aZ (d.t.N i).2.length cZ] wr fun e w' => e = .returned (.bool true) ∧ Below wr.heap.size wr w') := by
          intro wr hb
          have ha := (HLV.out.below hb).r.args i hli
          rw [HRG.out] at ha
          have h20 := HD.out.2.2.2.1 i hli
          refine (Alike_any _ _ _ _ wr (ai_of_ol (HOV.out.stay (fun b hb9 => hb.block b (HOV.out.lt hb9))) (by omega)) (ai_of_ol ha (by omega))).mono ?_
          rintro e w' ⟨rfl, hb9⟩
          exact ⟨by simp, hb9⟩
        have h20 : (d.t.N i).2.length ≤ 20 := HD.out.2.2.2.1 i hli
        have HOZ : Hid (∃ z : Nat → Int, OL 1 3 V (.slice (some ⟨b9, 0, none⟩) (d.t.N i).2.length (d.t.N i).2.length) (d.t.N i).2.length (fun k => [.int .i64 (z k)])) := ⟨_, HOV.out⟩
        clear c0 c1 hlb hol hsz hb3 h3 hbV k11 n0 n1 H5 HOV
        go_wp2
        rw [← hV]
        obtain ⟨b11, hb11⟩ : ∃ b11, b11 = w3.heap.size := ⟨_, rfl⟩
        rw [← hb11] at HX0 HX1 HXB HK11 ⊢
        clear hV hb11
        generalize (d.t.N i).1 = fk at HX0 HMF HND HK11 ⊢
        generalize (d.t.N i).2.length = lz at HX1 HMA HND HAL HK11 HOZ h20 ⊢
        refine wp_region_E (by kernel_rfl) [some 68, some 69, some 70, some 71, some 72, some 73, some 74, some 75, some 76, some 77, some 78, some 79, some 80, some 81, some 67, some 82, some 83, some 13, some 14] [none, none, none, none, none, none, none, none, none, none, none, none, none, some 13, some 14, none, none, none, none, none, none, none, none, none, none, none, none, none, none, none, none, none, none, none, none, none, none, none, none, none, none, none, none, none, none, none, none, none, none, none, none, none, none, none, none, none, none, none, none, none, none, none, none, none, none, none, none, some 67, some 68, some 69, some 70, some 71, some 72, some 73, some 74, some 75, some 76, some 77, some 78, some 79, some 80, some 81, some 82, some 83] (fun U => by kernel_rfl) [fun u => u = (.pointer (some ⟨g, 0, none⟩)), fun u => u = (.pointer (some ⟨bW, 0, none⟩)), fun u => u = (.slice (some ⟨bN, 0, none⟩) d.t.nn cN), fun u => u = (.int .i64 (i : Nat)), fun u => u = (.pointer (some ⟨bN, i * 2, none⟩)), fun u => u = (.pointer (some ⟨bN, i * 2, none⟩)), fun u => u = (.string fk), fun u => u = (.pointer (some ⟨bW, 0, none⟩)), fun u => u = (.slice (some ⟨bN, 0, none⟩) d.t.nn cN), fun u => u = (.int .i64 (i : Nat)), fun u => u = (.pointer (some ⟨bN, i * 2, none⟩)), fun u => u = (.pointer (some ⟨bN, i * 2 + 1, none⟩)), fun u => u = (.slice aZ lz cZ), fun u => u = (.tuple #[.int .i64 (i : Nat), .int .i64 0]), fun u => u = (.tuple #[.int .i64 (i : Nat), .int .i64 0]), fun u => u = (.int .i64 (i : Nat)), fun u => u = (.int .i64 0), fun u => u = (.int .i64 (i : Nat)), fun u => u = (.int .i64 0)] (fun L U wr => Below V.heap.size V wr) (by kernel_rfl) (by decide) (by kernel_rfl) (by kernel_rfl) ?_ ?_ ?_
        · exact fun U => (Below.refl _ _).drew
        · refine StepsE.run rfl ?_ ?_
          · intro L U wr hC hP hlk hcl haf A K hFm hK
            simp [Aft, Region.binds] at haf
            have e5 : A.tmps[5]? = some (.pointer (some ⟨g, 0, none⟩)) := (hFm.old 5 (by decide)).trans (by kernel_rfl)
            have HC : Hid _ := hC
            clear hC
            refine ⟨?_⟩
            go_simp
            exact hK _ _ rfl HC.out
          refine StepsE.run rfl ?_ ?_
          · intro L U wr hC hP hlk hcl haf A K hFm hK
            simp [Aft, Region.binds] at haf
            have e6 : A.tmps[6]? = some (.pointer (some ⟨bW, 0, none⟩)) := (hFm.old 6 (by decide)).trans (by kernel_rfl)
            have m7 := (hC.cell (p := ⟨bW, 0, none⟩) HWB.out).trans HMW.out
            have HC : Hid _ := hC
            clear hC
            refine ⟨?_⟩
            go_simp
            exact hK _ _ rfl HC.out
          refine StepsE.run rfl ?_ ?_
          · intro L U wr hC hP hlk hcl haf A K hFm hK
            simp [Aft, Region.binds] at haf
            have g1 : U 69 = (.pointer (some ⟨bW, 0, none⟩)) := hP 1 69 (by simp [haf]) rfl
            have e69 : A.tmps[69]? = some (.pointer (some ⟨bW, 0, none⟩)) := hFm.is 1 69 rfl g1
            have m7 := (hC.cell (p := ⟨bW, 0, none⟩) HWB.out).trans HMW.out
            have HC : Hid _ := hC
            clear hC
            refine ⟨?_⟩
            go_simp
            exact hK _ _ rfl HC.out
          refine StepsE.run rfl ?_ ?_
          · intro L U wr hC hP hlk hcl haf A K hFm hK
            simp [Aft, Region.binds] at haf
            have e10 : A.tmps[10]? = some (.int .i64 (i : Nat)) := (hFm.old 10 (by decide)).trans (by kernel_rfl)
            have HC : Hid _ := hC
            clear hC
            refine ⟨?_⟩
            go_simp
            exact hK _ _ rfl HC.out
          refine StepsE.run rfl ?_ ?_
          · intro L U wr hC hP hlk hcl haf A K hFm hK
            simp [Aft, Region.binds] at haf
            have g2 : U 70 = (.slice (some ⟨bN, 0, none⟩) d.t.nn cN) := hP 2 70 (by simp [haf]) rfl
            have e70 : A.tmps[70]? = some (.slice (some ⟨bN, 0, none⟩) d.t.nn cN) := hFm.is 2 70 rfl g2
            have g3 : U 71 = (.int .i64 (i : Nat)) := hP 3 71 (by simp [haf]) rfl
            have e71 : A.tmps[71]? = some (.int .i64 (i : Nat)) := hFm.is 3 71 rfl g3
            have HC : Hid _ := hC
            clear hC
            refine ⟨?_⟩
            go_simp
            exact hK _ _ rfl HC.out
          refine StepsE.run rfl ?_ ?_
          · intro L U wr hC hP hlk hcl haf A K hFm hK
            simp [Aft, Region.binds] at haf
            have g4 : U 72 = (.pointer (some ⟨bN, i * 2, none⟩)) := hP 4 72 (by simp [haf]) rfl
            have e72 : A.tmps[72]? = some (.pointer (some ⟨bN, i * 2, none⟩)) := hFm.is 4 72 rfl g4
            have HC : Hid _ := hC
            clear hC
            refine ⟨?_⟩
            go_simp
            exact hK _ _ rfl HC.out
          refine StepsE.run rfl ?_ ?_
          · intro L U wr hC hP hlk hcl haf A K hFm hK
            simp [Aft, Region.binds] at haf
            have g5 : U 73 = (.pointer (some ⟨bN, i * 2, none⟩)) := hP 5 73 (by simp [haf]) rfl
            have e73 : A.tmps[73]? = some (.pointer (some ⟨bN, i * 2, none⟩)) := hFm.is 5 73 rfl g5
            have m7 := (hC.cell (p := ⟨bN, i * 2, none⟩) HNB.out).trans HMF.out
            have HC : Hid _ := hC
            clear hC
            refine ⟨?_⟩
            go_simp
            exact hK _ _ rfl HC.out
          refine StepsE.run rfl ?_ ?_
          · intro L U wr hC hP hlk hcl haf A K hFm hK
            simp [Aft, Region.binds] at haf
            have e6 : A.tmps[6]? = some (.pointer (some ⟨bW, 0, none⟩)) := (hFm.old 6 (by decide)).trans (by kernel_rfl)
            have m7 := (hC.cell (p := ⟨bW, 0, none⟩) HWB.out).trans HMW.out
            have HC : Hid _ := hC
            clear hC
            refine ⟨?_⟩
            go_simp
            exact hK _ _ rfl HC.out
          refine StepsE.run rfl ?_ ?_
          · intro L U wr hC hP hlk hcl haf A K hFm hK
            simp [Aft, Region.binds] at haf
            have g7 : U 75 = (.pointer (some ⟨bW, 0, none⟩)) := hP 7 75 (by simp [haf]) rfl
            have e75 : A.tmps[75]? = some (.pointer (some ⟨bW, 0, none⟩)) := hFm.is 7 75 rfl g7
            have m7 := (hC.cell (p := ⟨bW, 0, none⟩) HWB.out).trans HMW.out
            have HC : Hid _ := hC
            clear hC
            refine ⟨?_⟩
            go_simp
            exact hK _ _ rfl HC.out
          refine StepsE.run rfl ?_ ?_
          · intro L U wr hC hP hlk hcl haf A K hFm hK
            simp [Aft, Region.binds] at haf
            have e10 : A.tmps[10]? = some (.int .i64 (i : Nat)) := (hFm.old 10 (by decide)).trans (by kernel_rfl)
            have HC : Hid _ := hC
            clear hC
            refine ⟨?_⟩
            go_simp
            exact hK _ _ rfl HC.out
          refine StepsE.run rfl ?_ ?_
          · intro L U wr hC hP hlk hcl haf A K hFm hK
            simp [Aft, Region.binds] at haf
            have g8 : U 76 = (.slice (some ⟨bN, 0, none⟩) d.t.nn cN) := hP 8 76 (by simp [haf]) rfl
            have e76 : A.tmps[76]? = some (.slice (some ⟨bN, 0, none⟩) d.t.nn cN) := hFm.is 8 76 rfl g8
            have g9 : U 77 = (.int .i64 (i : Nat)) := hP 9 77 (by simp [haf]) rfl
            have e77 : A.tmps[77]? = some (.int .i64 (i : Nat)) := hFm.is 9 77 rfl g9
            have HC : Hid _ := hC
            clear hC
            refine ⟨?_⟩
            go_simp
            exact hK _ _ rfl HC.out
          refine StepsE.run rfl ?_ ?_
          · intro L U wr hC hP hlk hcl haf A K hFm hK
            simp [Aft, Region.binds] at haf
            have g10 : U 78 = (.pointer (some ⟨bN, i * 2, none⟩)) := hP 10 78 (by simp [haf]) rfl
            have e78 : A.tmps[78]? = some (.pointer (some ⟨bN, i * 2, none⟩)) := hFm.is 10 78 rfl g10
            have HC : Hid _ := hC
            clear hC
            refine ⟨?_⟩
            go_simp
            exact hK _ _ rfl HC.out
          refine StepsE.run rfl ?_ ?_
          · intro L U wr hC hP hlk hcl haf A K hFm hK
            simp [Aft, Region.binds] at haf
            have g11 : U 79 = (.pointer (some ⟨bN, i * 2 + 1, none⟩)) := hP 11 79 (by simp [haf]) rfl
            have e79 : A.tmps[79]? = some (.pointer (some ⟨bN, i * 2 + 1, none⟩)) := hFm.is 11 79 rfl g11
            have m7 := (hC.cell (p := ⟨bN, i * 2 + 1, none⟩) HNB.out).trans HMA.out
            have HC : Hid _ := hC
            clear hC
            refine ⟨?_⟩
            go_simp
            exact hK _ _ rfl HC.out
          refine StepsE.run rfl ?_ ?_
          · intro L U wr hC hP hlk hcl haf A K hFm hK
            simp [Aft, Region.binds] at haf
            have g0 : U 68 = (.pointer (some ⟨g, 0, none⟩)) := hP 0 68 (by simp [haf]) rfl
            have e68 : A.tmps[68]? = some (.pointer (some ⟨g, 0, none⟩)) := hFm.is 0 68 rfl g0
            have g6 : U 74 = (.string fk) := hP 6 74 (by simp [haf]) rfl
            have e74 : A.tmps[74]? = some (.string fk) := hFm.is 6 74 rfl g6
            have g12 : U 80 = (.slice aZ lz cZ) := hP 12 80 (by simp [haf]) rfl
            have e80 : A.tmps[80]? = some (.slice aZ lz cZ) := hFm.is 12 80 rfl g12
            refine ⟨?_⟩
            have HB9 : Hid _ := hC
            clear hC
            go_simp
            refine (HND.out wr HB9.out).mono ?_
            rintro e w1 ⟨rfl, hb9⟩
            go_simp
            exact hK _ _ (rfl) (HB9.out.trans (hb9.mono HB9.out.size))
          refine StepsE.run rfl ?_ ?_
          · intro L U wr hC hP hlk hcl haf A K hFm hK
            simp [Aft, Region.binds] at haf
            have g13 : U 81 = (.tuple #[.int .i64 (i : Nat), .int .i64 0]) := hP 13 81 (by simp [haf]) rfl
            have e81 : A.tmps[81]? = some (.tuple #[.int .i64 (i : Nat), .int .i64 0]) := hFm.is 13 81 rfl g13
            have HC : Hid _ := hC
            clear hC
            refine ⟨?_⟩
            go_simp
            exact hK _ _ rfl HC.out
          refine StepsE.run rfl ?_ ?_
          · intro L U wr hC hP hlk hcl haf A K hFm hK
            simp [Aft, Region.binds] at haf
            have g14 : U 67 = (.tuple #[.int .i64 (i : Nat), .int .i64 0]) := hP 14 67 (by simp [haf]) rfl
            have e67 : A.tmps[67]? = some (.tuple #[.int .i64 (i : Nat), .int .i64 0]) := hFm.is 14 67 rfl g14
            have HC : Hid _ := hC
            clear hC
            refine ⟨?_⟩
            go_simp
            exact hK _ _ rfl HC.out
          refine StepsE.run rfl ?_ ?_
          · intro L U wr hC hP hlk hcl haf A K hFm hK
            simp [Aft, Region.binds] at haf
            have g14 : U 67 = (.tuple #[.int .i64 (i : Nat), .int .i64 0]) := hP 14 67 (by simp [haf]) rfl
            have e67 : A.tmps[67]? = some (.tuple #[.int .i64 (i : Nat), .int .i64 0]) := hFm.is 14 67 rfl g14
            have HC : Hid _ := hC
            clear hC
            refine ⟨?_⟩
            go_simp
            exact hK _ _ rfl HC.out
          refine StepsE.run rfl ?_ ?_
          · intro L U wr hC hP hlk hcl haf A K hFm hK
            simp [Aft, Region.binds] at haf
            have g15 : U 82 = (.int .i64 (i : Nat)) := hP 15 82 (by simp [haf]) rfl
            have e82 : A.tmps[82]? = some (.int .i64 (i : Nat)) := hFm.is 15 82 rfl g15
            have HC : Hid _ := hC
            clear hC
            refine ⟨?_⟩
            go_simp
            exact hK _ _ rfl HC.out
          refine StepsE.run rfl ?_ StepsE.nil
          · intro L U wr hC hP hlk hcl haf A K hFm hK
            simp [Aft, Region.binds] at haf
            have g16 : U 83 = (.int .i64 0) := hP 16 83 (by simp [haf]) rfl
            have e83 : A.tmps[83]? = some (.int .i64 0) := hFm.is 16 83 rfl g16
            have HC : Hid _ := hC
            clear hC
            refine ⟨?_⟩
            go_simp
            exact hK _ _ rfl HC.out
        intro L U5 V5 hall hC hP
        have HB5 : Hid (Below V.heap.size V V5) := hC
        have e13 : U5 13 = .int .i64 (i : Nat) := hP 17 13 rfl
        have e14 : U5 14 = .int .i64 0 := hP 18 14 rfl
        simp only [setM_some, setM_none, setM_nil]
        rw [e13, e14]
        clear hC hP hall e13 e14 HND
        go_wp2
        refine wp_region_E (by kernel_rfl) [some 84, some 85, some 86, some 87, some 88, some 89, some 90, some 91, some 92, some 93, some 94, some 95, some 96, some 97, some 98, some 99, some 100, some 101, some 102, some 103, some 104, some 105, some 106, some 107, some 108, some 109, some 110, some 111, some 112, some 113, some 114, some 115, some 116, some 117] [none, none, none, none, none, none, none, none, none, none, none, none, none, none, none, none, none, none, none, none, none, none, none, none, none, none, none, none, none, none, none, none, none, none, none, none, none, none, none, none, none, none, none, none, none, none, none, none, none, none, none, none, none, none, none, none, none, none, none, none, none, none, none, none, none, none, none, none, none, none, none, none, none, none, none, none, none, none, none, none, none, none, none, none, some 84, some 85, some 86, some 87, some 88, some 89, some 90, some 91, some 92, some 93, some 94, some 95, some 96, some 97, some 98, some 99, some 100, some 101, some 102, some 103, some 104, some 105, some 106, some 107, some 108, some 109, some 110, some 111, some 112, some 113, some 114, some 115, some 116, some 117] (fun U => by kernel_rfl) [fun u => u = (.bool true), fun u => u = (.bool false), fun u => u = (.bool false), fun u => u = (.pointer (some ⟨b11, 0, none⟩)), fun u => u = (.string fk), fun u => u = (.pointer (some ⟨bW, 0, none⟩)), fun u => u = (.slice (some ⟨bN, 0, none⟩) d.t.nn cN), fun u => u = (.int .i64 (i : Nat)), fun u => u = (.pointer (some ⟨bN, i * 2, none⟩)), fun u => u = (.pointer (some ⟨bN, i * 2, none⟩)), fun u => u = (.string fk), fun u => u = (.bool false), fun u => u = (.bool false), fun u => u = (.bool false), fun u => u = (.pointer (some ⟨b11, 1, none⟩)), fun u => u = (.slice (some ⟨b9, 0, none⟩) lz lz), fun u => u = (.pointer (some ⟨bW, 0, none⟩)), fun u => u = (.slice (some ⟨bN, 0, none⟩) d.t.nn cN), fun u => u = (.int .i64 (i : Nat)), fun u => u = (.pointer (some ⟨bN, i * 2, none⟩)), fun u => u = (.pointer (some ⟨bN, i * 2 + 1, none⟩)), fun u => u = (.slice aZ lz cZ), fun u => u = (.bool true), fun u => u = (.bool false), fun u => u = (.bool false), fun u => u = (.bool false), fun u => u = (.int .i64 (i : Nat)), fun u => u = (.int .i64 (i : Nat)), fun u => u = (.bool false), fun u => u = (.bool false), fun u => u = (.bool false), fun u => u = (.int .i64 0), fun u => u = (.bool false), fun u => u = (.bool false)] (fun L U wr => Below V.heap.size V wr) (by kernel_rfl) (by decide) (by kernel_rfl) (by kernel_rfl) ?_ ?_ ?_
        · exact fun U => HB5.out.drew
        · refine StepsE.run rfl ?_ ?_
          · intro L U wr hC hP hlk hcl haf A K hFm hK
            simp [Aft, Region.binds] at haf
            have e12 : A.tmps[12]? = some (.bool true) := (hFm.old 12 (by decide)).trans (by kernel_rfl)
            have HC : Hid _ := hC
            clear hC
            refine ⟨?_⟩
            go_simp
            exact hK _ _ rfl HC.out
          refine StepsE.run rfl ?_ ?_
          · intro L U wr hC hP hlk hcl haf A K hFm hK
            simp [Aft, Region.binds] at haf
            have g0 : U 84 = (.bool true) := hP 0 84 (by simp [haf]) rfl
            have e84 : A.tmps[84]? = some (.bool true) := hFm.is 0 84 rfl g0
            have HC : Hid _ := hC
            clear hC
            refine ⟨?_⟩
            go_simp
            exact hK _ _ rfl HC.out
          refine StepsE.run rfl ?_ ?_
          · intro L U wr hC hP hlk hcl haf A K hFm hK
            simp [Aft, Region.binds] at haf
            have g1 : U 85 = (.bool false) := hP 1 85 (by simp [haf]) rfl
            have e85 : A.tmps[85]? = some (.bool false) := hFm.is 1 85 rfl g1
            have HC : Hid _ := hC
            clear hC
            refine ⟨?_⟩
            go_simp
            exact hK _ _ rfl HC.out
          refine StepsE.runG 2 86 false rfl rfl rfl (fun L h => by simp [Aft, Region.binds] at h; simp [h]) (fun u h => h) ?_ ?_
          · intro L U wr hC hP hlk hcl haf A K hFm hK
            simp [Aft, Region.binds] at haf
            have e11 : A.tmps[11]? = some (.pointer (some ⟨b11, 0, none⟩)) := (hFm.old 11 (by decide)).trans (by kernel_rfl)
            have m7 := (hC.cell (p := ⟨b11, 0, none⟩) HXB.out).trans HX0.out
            have HC : Hid _ := hC
            clear hC
            refine ⟨?_⟩
            go_simp
            exact hK _ _ rfl HC.out
          refine StepsE.runG 2 86 false rfl rfl rfl (fun L h => by simp [Aft, Region.binds] at h; simp [h]) (fun u h => h) ?_ ?_
          · intro L U wr hC hP hlk hcl haf A K hFm hK
            simp [Aft, Region.binds] at haf
            have g3 : U 87 = (.pointer (some ⟨b11, 0, none⟩)) := hP 3 87 (by simp [haf]) rfl
            have e87 : A.tmps[87]? = some (.pointer (some ⟨b11, 0, none⟩)) := hFm.is 3 87 rfl g3
            have m7 := (hC.cell (p := ⟨b11, 0, none⟩) HXB.out).trans HX0.out
            have HC : Hid _ := hC
            clear hC
            refine ⟨?_⟩
            go_simp
            exact hK _ _ rfl HC.out
          refine StepsE.runG 2 86 false rfl rfl rfl (fun L h => by simp [Aft, Region.binds] at h; simp [h]) (fun u h => h) ?_ ?_
          · intro L U wr hC hP hlk hcl haf A K hFm hK
            simp [Aft, Region.binds] at haf
            have e6 : A.tmps[6]? = some (.pointer (some ⟨bW, 0, none⟩)) := (hFm.old 6 (by decide)).trans (by kernel_rfl)
            have m7 := (hC.cell (p := ⟨bW, 0, none⟩) HWB.out).trans HMW.out
            have HC : Hid _ := hC
            clear hC
            refine ⟨?_⟩
            go_simp
            exact hK _ _ rfl HC.out
          refine StepsE.runG 2 86 false rfl rfl rfl (fun L h => by simp [Aft, Region.binds] at h; simp [h]) (fun u h => h) ?_ ?_
          · intro L U wr hC hP hlk hcl haf A K hFm hK
            simp [Aft, Region.binds] at haf
            have g5 : U 89 = (.pointer (some ⟨bW, 0, none⟩)) := hP 5 89 (by simp [haf]) rfl
            have e89 : A.tmps[89]? = some (.pointer (some ⟨bW, 0, none⟩)) := hFm.is 5 89 rfl g5
            have m7 := (hC.cell (p := ⟨bW, 0, none⟩) HWB.out).trans HMW.out
            have HC : Hid _ := hC
            clear hC
            refine ⟨?_⟩
            go_simp
            exact hK _ _ rfl HC.out
          refine StepsE.runG 2 86 false rfl rfl rfl (fun L h => by simp [Aft, Region.binds] at h; simp [h]) (fun u h => h) ?_ ?_
          · intro L U wr hC hP hlk hcl haf A K hFm hK
            simp [Aft, Region.binds] at haf
            have e10 : A.tmps[10]? = some (.int .i64 (i : Nat)) := (hFm.old 10 (by decide)).trans (by kernel_rfl)
            have HC : Hid _ := hC
            clear hC
            refine ⟨?_⟩
            go_simp
            exact hK _ _ rfl HC.out
          refine StepsE.runG 2 86 false rfl rfl rfl (fun L h => by simp [Aft, Region.binds] at h; simp [h]) (fun u h => h) ?_ ?_
          · intro L U wr hC hP hlk hcl haf A K hFm hK
            simp [Aft, Region.binds] at haf
            have g6 : U 90 = (.slice (some ⟨bN, 0, none⟩) d.t.nn cN) := hP 6 90 (by simp [haf]) rfl
            have e90 : A.tmps[90]? = some (.slice (some ⟨bN, 0, none⟩) d.t.nn cN) := hFm.is 6 90 rfl g6
            have g7 : U 91 = (.int .i64 (i : Nat)) := hP 7 91 (by simp [haf]) rfl
            have e91 : A.tmps[91]? = some (.int .i64 (i : Nat)) := hFm.is 7 91 rfl g7
            have HC : Hid _ := hC
            clear hC
            refine ⟨?_⟩
            go_simp
            exact hK _ _ rfl HC.out
          refine StepsE.runG 2 86 false rfl rfl rfl (fun L h => by simp [Aft, Region.binds] at h; simp [h]) (fun u h => h) ?_ ?_
          · intro L U wr hC hP hlk hcl haf A K hFm hK
            simp [Aft, Region.binds] at haf
            have g8 : U 92 = (.pointer (some ⟨bN, i * 2, none⟩)) := hP 8 92 (by simp [haf]) rfl
            have e92 : A.tmps[92]? = some (.pointer (some ⟨bN, i * 2, none⟩)) := hFm.is 8 92 rfl g8
            have HC : Hid _ := hC
            clear hC
            refine ⟨?_⟩
            go_simp
            exact hK _ _ rfl HC.out
          refine StepsE.runG 2 86 false rfl rfl rfl (fun L h => by simp [Aft, Region.binds] at h; simp [h]) (fun u h => h) ?_ ?_
          · intro L U wr hC hP hlk hcl haf A K hFm hK
            simp [Aft, Region.binds] at haf
            have g9 : U 93 = (.pointer (some ⟨bN, i * 2, none⟩)) := hP 9 93 (by simp [haf]) rfl
            have e93 : A.tmps[93]? = some (.pointer (some ⟨bN, i * 2, none⟩)) := hFm.is 9 93 rfl g9
            have m7 := (hC.cell (p := ⟨bN, i * 2, none⟩) HNB.out).trans HMF.out
            have HC : Hid _ := hC
            clear hC
            refine ⟨?_⟩
            go_simp
            exact hK _ _ rfl HC.out
          refine StepsE.runG 2 86 false rfl rfl rfl (fun L h => by simp [Aft, Region.binds] at h; simp [h]) (fun u h => h) ?_ ?_
          · intro L U wr hC hP hlk hcl haf A K hFm hK
            simp [Aft, Region.binds] at haf
            have g4 : U 88 = (.string fk) := hP 4 88 (by simp [haf]) rfl
            have e88 : A.tmps[88]? = some (.string fk) := hFm.is 4 88 rfl g4
            have g10 : U 94 = (.string fk) := hP 10 94 (by simp [haf]) rfl
            have e94 : A.tmps[94]? = some (.string fk) := hFm.is 10 94 rfl g10
            have HC : Hid _ := hC
            clear hC
            refine ⟨?_⟩
            go_simp
            exact hK _ _ rfl HC.out
          refine StepsE.run rfl ?_ ?_
          · intro L U wr hC hP hlk hcl haf A K hFm hK
            simp [Aft, Region.binds] at haf
            have g2 : U 86 = (.bool false) := hP 2 86 (by simp [haf]) rfl
            have e86 : A.tmps[86]? = some (.bool false) := hFm.is 2 86 rfl g2
            have g11 : U 95 = (.bool false) := hP 11 95 (by simp [haf]) rfl
            have e95 : A.tmps[95]? = some (.bool false) := hFm.is 11 95 rfl g11
            have HC : Hid _ := hC
            clear hC
            refine ⟨?_⟩
            go_simp
            exact hK _ _ rfl HC.out
          refine StepsE.run rfl ?_ ?_
          · intro L U wr hC hP hlk hcl haf A K hFm hK
            simp [Aft, Region.binds] at haf
            have g12 : U 96 = (.bool false) := hP 12 96 (by simp [haf]) rfl
            have e96 : A.tmps[96]? = some (.bool false) := hFm.is 12 96 rfl g12
            have HC : Hid _ := hC
            clear hC
            refine ⟨?_⟩
            go_simp
            exact hK _ _ rfl HC.out
          refine StepsE.runG 13 97 false rfl rfl rfl (fun L h => by simp [Aft, Region.binds] at h; simp [h]) (fun u h => h) ?_ ?_
          · intro L U wr hC hP hlk hcl haf A K hFm hK
            simp [Aft, Region.binds] at haf
            have e11 : A.tmps[11]? = some (.pointer (some ⟨b11, 0, none⟩)) := (hFm.old 11 (by decide)).trans (by kernel_rfl)
            have m7 := (hC.cell (p := ⟨b11, 1, none⟩) HXB.out).trans HX1.out
            have HC : Hid _ := hC
            clear hC
            refine ⟨?_⟩
            go_simp
            exact hK _ _ rfl HC.out
          refine StepsE.runG 13 97 false rfl rfl rfl (fun L h => by simp [Aft, Region.binds] at h; simp [h]) (fun u h => h) ?_ ?_
          · intro L U wr hC hP hlk hcl haf A K hFm hK
            simp [Aft, Region.binds] at haf
            have g14 : U 98 = (.pointer (some ⟨b11, 1, none⟩)) := hP 14 98 (by simp [haf]) rfl
            have e98 : A.tmps[98]? = some (.pointer (some ⟨b11, 1, none⟩)) := hFm.is 14 98 rfl g14
            have m7 := (hC.cell (p := ⟨b11, 1, none⟩) HXB.out).trans HX1.out
            have HC : Hid _ := hC
            clear hC
            refine ⟨?_⟩
            go_simp
            exact hK _ _ rfl HC.out
          refine StepsE.runG 13 97 false rfl rfl rfl (fun L h => by simp [Aft, Region.binds] at h; simp [h]) (fun u h => h) ?_ ?_
          · intro L U wr hC hP hlk hcl haf A K hFm hK
            simp [Aft, Region.binds] at haf
            have e6 : A.tmps[6]? = some (.pointer (some ⟨bW, 0, none⟩)) := (hFm.old 6 (by decide)).trans (by kernel_rfl)
            have m7 := (hC.cell (p := ⟨bW, 0, none⟩) HWB.out).trans HMW.out
            have HC : Hid _ := hC
            clear hC
            refine ⟨?_⟩
            go_simp
            exact hK _ _ rfl HC.out
          refine StepsE.runG 13 97 false rfl rfl rfl (fun L h => by simp [Aft, Region.binds] at h; simp [h]) (fun u h => h) ?_ ?_
          · intro L U wr hC hP hlk hcl haf A K hFm hK
            simp [Aft, Region.binds] at haf
            have g16 : U 100 = (.pointer (some ⟨bW, 0, none⟩)) := hP 16 100 (by simp [haf]) rfl
            have e100 : A.tmps[100]? = some (.pointer (some ⟨bW, 0, none⟩)) := hFm.is 16 100 rfl g16
            have m7 := (hC.cell (p := ⟨bW, 0, none⟩) HWB.out).trans HMW.out
            have HC : Hid _ := hC
            clear hC
            refine ⟨?_⟩
            go_simp
            exact hK _ _ rfl HC.out
          refine StepsE.runG 13 97 false rfl rfl rfl (fun L h => by simp [Aft, Region.binds] at h; simp [h]) (fun u h => h) ?_ ?_
          · intro L U wr hC hP hlk hcl haf A K hFm hK
            simp [Aft, Region.binds] at haf
            have e10 : A.tmps[10]? = some (.int .i64 (i : Nat)) := (hFm.old 10 (by decide)).trans (by kernel_rfl)
            have HC : Hid _ := hC
            clear hC
            refine ⟨?_⟩
            go_simp
            exact hK _ _ rfl HC.out
          refine StepsE.runG 13 97 false rfl rfl rfl (fun L h => by simp [Aft, Region.binds] at h; simp [h]) (fun u h => h) ?_ ?_
          · intro L U wr hC hP hlk hcl haf A K hFm hK
            simp [Aft, Region.binds] at haf
            have g17 : U 101 = (.slice (some ⟨bN, 0, none⟩) d.t.nn cN) := hP 17 101 (by simp [haf]) rfl
            have e101 : A.tmps[101]? = some (.slice (some ⟨bN, 0, none⟩) d.t.nn cN) := hFm.is 17 101 rfl g17
            have g18 : U 102 = (.int .i64 (i : Nat)) := hP 18 102 (by simp [haf]) rfl
            have e102 : A.tmps[102]? = some (.int .i64 (i : Nat)) := hFm.is 18 102 rfl g18
            have HC : Hid _ := hC
            clear hC
            refine ⟨?_⟩
            go_simp
            exact hK _ _ rfl HC.out
          refine StepsE.runG 13 97 false rfl rfl rfl (fun L h => by simp [Aft, Region.binds] at h; simp [h]) (fun u h => h) ?_ ?_
          · intro L U wr hC hP hlk hcl haf A K hFm hK
            simp [Aft, Region.binds] at haf
            have g19 : U 103 = (.pointer (some ⟨bN, i * 2, none⟩)) := hP 19 103 (by simp [haf]) rfl
            have e103 : A.tmps[103]? = some (.pointer (some ⟨bN, i * 2, none⟩)) := hFm.is 19 103 rfl g19
            have HC : Hid _ := hC
            clear hC
            refine ⟨?_⟩
            go_simp
            exact hK _ _ rfl HC.out
          refine StepsE.runG 13 97 false rfl rfl rfl (fun L h => by simp [Aft, Region.binds] at h; simp [h]) (fun u h => h) ?_ ?_
          · intro L U wr hC hP hlk hcl haf A K hFm hK
            simp [Aft, Region.binds] at haf
            have g20 : U 104 = (.pointer (some ⟨bN, i * 2 + 1, none⟩)) := hP 20 104 (by simp [haf]) rfl
            have e104 : A.tmps[104]? = some (.pointer (some ⟨bN, i * 2 + 1, none⟩)) := hFm.is 20 104 rfl g20
            have m7 := (hC.cell (p := ⟨bN, i * 2 + 1, none⟩) HNB.out).trans HMA.out
            have HC : Hid _ := hC
            clear hC
            refine ⟨?_⟩
            go_simp
            exact hK _ _ rfl HC.out
          refine StepsE.runG 13 97 false rfl rfl rfl (fun L h => by simp [Aft, Region.binds] at h; simp [h]) (fun u h => h) ?_ ?_
          · intro L U wr hC hP hlk hcl haf A K hFm hK
            simp [Aft, Region.binds] at haf
            have g15 : U 99 = (.slice (some ⟨b9, 0, none⟩) lz lz) := hP 15 99 (by simp [haf]) rfl
            have e99 : A.tmps[99]? = some (.slice (some ⟨b9, 0, none⟩) lz lz) := hFm.is 15 99 rfl g15
            have g21 : U 105 = (.slice aZ lz cZ) := hP 21 105 (by simp [haf]) rfl
            have e105 : A.tmps[105]? = some (.slice aZ lz cZ) := hFm.is 21 105 rfl g21
            refine ⟨?_⟩
            have HB9 : Hid _ := hC
            clear hC
            go_simp
            refine (HAL.out wr HB9.out).mono ?_
            rintro e w1 ⟨rfl, hb9⟩
            go_simp
            exact hK _ _ (rfl) (HB9.out.trans (hb9.mono HB9.out.size))
          refine StepsE.runG 13 97 false rfl rfl rfl (fun L h => by simp [Aft, Region.binds] at h; simp [h]) (fun u h => h) ?_ ?_
          · intro L U wr hC hP hlk hcl haf A K hFm hK
            simp [Aft, Region.binds] at haf
            have g22 : U 106 = (.bool true) := hP 22 106 (by simp [haf]) rfl
            have e106 : A.tmps[106]? = some (.bool true) := hFm.is 22 106 rfl g22
            have HC : Hid _ := hC
            clear hC
            refine ⟨?_⟩
            go_simp
            exact hK _ _ rfl HC.out
          refine StepsE.run rfl ?_ ?_
          · intro L U wr hC hP hlk hcl haf A K hFm hK
            simp [Aft, Region.binds] at haf
            have g13 : U 97 = (.bool false) := hP 13 97 (by simp [haf]) rfl
            have e97 : A.tmps[97]? = some (.bool false) := hFm.is 13 97 rfl g13
            have g23 : U 107 = (.bool false) := hP 23 107 (by simp [haf]) rfl
            have e107 : A.tmps[107]? = some (.bool false) := hFm.is 23 107 rfl g23
            have HC : Hid _ := hC
            clear hC
            refine ⟨?_⟩
            go_simp
            exact hK _ _ rfl HC.out
          refine StepsE.run rfl ?_ ?_
          · intro L U wr hC hP hlk hcl haf A K hFm hK
            simp [Aft, Region.binds] at haf
            have g24 : U 108 = (.bool false) := hP 24 108 (by simp [haf]) rfl
            have e108 : A.tmps[108]? = some (.bool false) := hFm.is 24 108 rfl g24
            have HC : Hid _ := hC
            clear hC
            refine ⟨?_⟩
            go_simp
            exact hK _ _ rfl HC.out
          refine StepsE.runG 25 109 false rfl rfl rfl (fun L h => by simp [Aft, Region.binds] at h; simp [h]) (fun u h => h) ?_ ?_
          · intro L U wr hC hP hlk hcl haf A K hFm hK
            simp [Aft, Region.binds] at haf
            have e13 : A.tmps[13]? = some (.int .i64 (i : Nat)) := (hFm.old 13 (by decide)).trans (by kernel_rfl)
            have HC : Hid _ := hC
            clear hC
            refine ⟨?_⟩
            go_simp
            exact hK _ _ rfl HC.out
          refine StepsE.runG 25 109 false rfl rfl rfl (fun L h => by simp [Aft, Region.binds] at h; simp [h]) (fun u h => h) ?_ ?_
          · intro L U wr hC hP hlk hcl haf A K hFm hK
            simp [Aft, Region.binds] at haf
            have e10 : A.tmps[10]? = some (.int .i64 (i : Nat)) := (hFm.old 10 (by decide)).trans (by kernel_rfl)
            have HC : Hid _ := hC
            clear hC
            refine ⟨?_⟩
            go_simp
            exact hK _ _ rfl HC.out
          refine StepsE.runG 25 109 false rfl rfl rfl (fun L h => by simp [Aft, Region.binds] at h; simp [h]) (fun u h => h) ?_ ?_
          · intro L U wr hC hP hlk hcl haf A K hFm hK
            simp [Aft, Region.binds] at haf
            have g26 : U 110 = (.int .i64 (i : Nat)) := hP 26 110 (by simp [haf]) rfl
            have e110 : A.tmps[110]? = some (.int .i64 (i : Nat)) := hFm.is 26 110 rfl g26
            have g27 : U 111 = (.int .i64 (i : Nat)) := hP 27 111 (by simp [haf]) rfl
            have e111 : A.tmps[111]? = some (.int .i64 (i : Nat)) := hFm.is 27 111 rfl g27
            have HC : Hid _ := hC
            clear hC
            refine ⟨?_⟩
            go_simp
            exact hK _ _ rfl HC.out
          refine StepsE.run rfl ?_ ?_
          · intro L U wr hC hP hlk hcl haf A K hFm hK
            simp [Aft, Region.binds] at haf
            have g25 : U 109 = (.bool false) := hP 25 109 (by simp [haf]) rfl
            have e109 : A.tmps[109]? = some (.bool false) := hFm.is 25 109 rfl g25
            have g28 : U 112 = (.bool false) := hP 28 112 (by simp [haf]) rfl
            have e112 : A.tmps[112]? = some (.bool false) := hFm.is 28 112 rfl g28
            have HC : Hid _ := hC
            clear hC
            refine ⟨?_⟩
            go_simp
            exact hK _ _ rfl HC.out
          refine StepsE.run rfl ?_ ?_
          · intro L U wr hC hP hlk hcl haf A K hFm hK
            simp [Aft, Region.binds] at haf
            have g29 : U 113 = (.bool false) := hP 29 113 (by simp [haf]) rfl
            have e113 : A.tmps[113]? = some (.bool false) := hFm.is 29 113 rfl g29
            have HC : Hid _ := hC
            clear hC
            refine ⟨?_⟩
            go_simp
            exact hK _ _ rfl HC.out
          refine StepsE.runG 30 114 false rfl rfl rfl (fun L h => by simp [Aft, Region.binds] at h; simp [h]) (fun u h => h) ?_ ?_
          · intro L U wr hC hP hlk hcl haf A K hFm hK
            simp [Aft, Region.binds] at haf
            have e14 : A.tmps[14]? = some (.int .i64 0) := (hFm.old 14 (by decide)).trans (by kernel_rfl)
            have HC : Hid _ := hC
            clear hC
            refine ⟨?_⟩
            go_simp
            exact hK _ _ rfl HC.out
          refine StepsE.runG 30 114 false rfl rfl rfl (fun L h => by simp [Aft, Region.binds] at h; simp [h]) (fun u h => h) ?_ ?_
          · intro L U wr hC hP hlk hcl haf A K hFm hK
            simp [Aft, Region.binds] at haf
            have g31 : U 115 = (.int .i64 0) := hP 31 115 (by simp [haf]) rfl
            have e115 : A.tmps[115]? = some (.int .i64 0) := hFm.is 31 115 rfl g31
            have HC : Hid _ := hC
            clear hC
            refine ⟨?_⟩
            go_simp
            exact hK _ _ rfl HC.out
          refine StepsE.run rfl ?_ StepsE.nil
          · intro L U wr hC hP hlk hcl haf A K hFm hK
            simp [Aft, Region.binds] at haf
            have g30 : U 114 = (.bool false) := hP 30 114 (by simp [haf]) rfl
            have e114 : A.tmps[114]? = some (.bool false) := hFm.is 30 114 rfl g30
            have g32 : U 116 = (.bool false) := hP 32 116 (by simp [haf]) rfl
            have e116 : A.tmps[116]? = some (.bool false) := hFm.is 32 116 rfl g32
            have HC : Hid _ := hC
            clear hC
            refine ⟨?_⟩
            go_simp
            exact hK _ _ rfl HC.out
        intro L U6 V6 hall hC hP
        have HB6 : Hid (Below V.heap.size V V6) := hC
        have e117 : U6 117 = .bool false := hP 33 117 rfl
        simp only [setM_some, setM_none, setM_nil]
        rw [e117]
        have HS6 : Hid (∃ z : Nat → Int, Lw w1 V6 g d d (.slice (some ⟨bN, 0, none⟩) d.t.nn cN) (.slice aE d.f.ne cE) rg bW (.slice none 0 0) 0 (fun _ => 0) ∧ OL 1 3 V6 (.slice (some ⟨b9, 0, none⟩) lz lz) lz (fun k => [.int .i64 (z k)]) ∧ Blk 43 V6 b11 #[.string fk, .slice (some ⟨b9, 0, none⟩) lz lz]) := by
          obtain ⟨z, hz⟩ := HOZ.out
          exact ⟨z, HLV.out.below hC, hz.stay (fun b hb => hC.block b (hz.lt hb)), HK11.out.stay hC⟩
        clear hC hP hall e117 HAL HB5 HB6 HX0 HX1 HXB HMW HWB HMF HMA HNB HLV HK11 HOZ
        go_wp2
        go_loopw [15] (fun v15 wr => ∃ (j : Nat) (z : Nat → Int), v15 = .int .i64 (j : Nat) ∧ j ≤ lz ∧ Hid (Lw w1 wr g d d (.slice (some ⟨bN, 0, none⟩) d.t.nn cN) (.slice aE d.f.ne cE) rg bW (.slice none 0 0) 0 (fun _ => 0) ∧ OL 1 3 wr (.slice (some ⟨b9, 0, none⟩) lz lz) lz (fun k => [.int .i64 (z k)]) ∧ Blk 43 wr b11 #[.string fk, .slice (some ⟨b9, 0, none⟩) lz lz])) (fun v _ => lz - (intOf v).toNat)
        case atStart =>
          obtain ⟨z, hz⟩ := HS6.out
          exact ⟨0, z, rfl, Nat.zero_le _, hz⟩
        case round =>
          rename World => wm
          clear HS6
          obtain ⟨j, z, rfl, hj, HJ⟩ := hrel
          obtain ⟨x0, x1, -, -⟩ := HJ.out.2.2.two
          have hxl := HJ.out.2.2.lt
          by_cases hlj : j < lz
          · have hljI : (j : Int) < (lz : Int) := by omega
            have l0 := HJ.out.2.1.cell (i := j) hlj (j := 0) (by omega)
            have hfz := HJ.out.2.1.frozen j
            have hb9l : b9 < wm.heap.size := HJ.out.2.1.lt rfl
            simp only [Nat.add_zero, Nat.mul_one, List.getElem?_cons_zero] at l0
            have hne : b11 ≠ b9 := fun e => HJ.out.2.1.neB HJ.out.2.2 (by decide) (by rw [e]; rfl)
            have HN : Hid (Lw w1 (wm.setCell ⟨b9, j, none⟩ (.int .i64 (-7))) g d d (.slice (some ⟨bN, 0, none⟩) d.t.nn cN) (.slice aE d.f.ne cE) rg bW (.slice none 0 0) 0 (fun _ => 0) ∧ OL 1 3 (wm.setCell ⟨b9, j, none⟩ (.int .i64 (-7))) (.slice (some ⟨b9, 0, none⟩) lz lz) lz (fun k => [.int .i64 (upd z j (-7) k)]) ∧ Blk 43 (wm.setCell ⟨b9, j, none⟩ (.int .i64 (-7))) b11 #[.string fk, .slice (some ⟨b9, 0, none⟩) lz lz]) := by
              refine ⟨HJ.out.1.away ((Mv.refl (OneB b9) wm).set (a := ⟨b9, j, none⟩) (Or.inl rfl) _) (fun b hb => by have : b = b9 := hb; subst this; exact ⟨HF9.out.1, HF9.out.2.1, HF9.out.2.2.1, (fun e => by cases e), HF9.out.2.2.2⟩), ?_, (heap_setCell_other wm ⟨b9, j, none⟩ b11 _ hne).trans HJ.out.2.2⟩
              have := HJ.out.2.1.set (i := j) (j := 0) hlj (by omega) (.int .i64 (-7)) (f' := fun k => [.int .i64 (upd z j (-7) k)]) (fun _ _ => rfl) (by rw [upd_same]; rfl) (fun k _ hk => by rw [upd_other _ _ hk])
              simpa using this
            clear HJ hne
            go_wp2
            go_roundw
            case rel => exact ⟨j + 1, upd z j (-7), by go_num, by omega, HN.out⟩
            case measure => simp [intOf] <;> omega
          · have hljI : ¬ ((j : Int) < (lz : Int)) := by omega
            have HLJ : Hid (Lw w1 wm g d d (.slice (some ⟨bN, 0, none⟩) d.t.nn cN) (.slice aE d.f.ne cE) rg bW (.slice none 0 0) 0 (fun _ => 0)) := HJ.out.1
            clear HJ hj
            go_wp2_with fail
            refine (At_any g d i wm HLJ.out.gw hli (by omega) (by have := HD.out.2.2.2.1 i hli; omega)).mono ?_
            rintro e w13 ⟨b9, rfl, hol, hsz, hb3⟩
            have h3 := HLJ.out.below hb3
            obtain ⟨V, hV⟩ : ∃ V, V = w13.alloc (.cells #[.string (d.t.N i).1, .slice (some ⟨b9, 0, none⟩) (d.t.N i).2.length (d.t.N i).2.length] 43 (0, 0)) := ⟨_, rfl⟩
            have hbV : Below w13.heap.size w13 V := by rw [hV]; go_grown
            have HLV : Hid (Lw w1 V g d d (.slice (some ⟨bN, 0, none⟩) d.t.nn cN) (.slice aE d.f.ne cE) rg bW (.slice none 0 0) 0 (fun _ => 0)) := h3.below hbV
            have HOV : Hid (OL 1 3 V (.slice (some ⟨b9, 0, none⟩) (d.t.N i).2.length (d.t.N i).2.length) (d.t.N i).2.length (natC (d.t.N i).2)) := hol.stay (fun b hb => hbV.block b (hol.lt hb))
            have k11 : Blk 43 V w13.heap.size #[.string (d.t.N i).1, .slice (some ⟨b9, 0, none⟩) (d.t.N i).2.length (d.t.N i).2.length] := by rw [hV]; exact heap_alloc_new w13 _
            have HX1 : Hid (V.cell? ⟨w13.heap.size, 1, none⟩ = some (.slice (some ⟨b9, 0, none⟩) (d.t.N i).2.length (d.t.N i).2.length)) := k11.two.2.1
            have HXB : Hid (w13.heap.size < V.heap.size) := k11.lt
            have HMW : Hid (V.cell? ⟨bW, 0, none⟩ = some (.slice (some ⟨bN, 0, none⟩) d.t.nn cN)) := HLV.out.bw.two.1
            have HWB : Hid (bW < V.heap.size) := HLV.out.bw.lt
            have n1 := HLV.out.r.nodes.cell (i := i) hli (j := 1) (by omega)
            simp only [List.getElem?_cons_zero, List.getElem?_cons_succ] at n1
            rw [HRG.out] at n1
            have HMA : Hid (V.cell? ⟨bN, i * 2 + 1, none⟩ = some (.slice aZ (d.t.N i).2.length cZ)) := n1
            have HNB : Hid (bN < V.heap.size) := HLV.out.r.nodes.lt rfl
            have HAL : Hid (∀ wr, Below V.heap.size V wr → Calls Try.prog 16 #[.slice (some ⟨b9, 0, none⟩) (d.t.N i).2.length (d.t.N i).2.length, .slice aZ (d.t.N i).2.length cZ] wr fun e w' => e = .returned (.bool true) ∧ Below wr.heap.size wr w') := by
              intro wr hb
              have ha := (HLV.out.below hb).r.args i hli
              rw [HRG.out] at ha
              have h20 := HD.out.2.2.2.1 i hli
              refine (Alike_any _ _ _ _ wr (ai_of_ol (HOV.out.stay (fun b hb9 => hb.block b (HOV.out.lt hb9))) (by omega)) (ai_of_ol ha (by omega))).mono ?_
              rintro e w' ⟨rfl, hb9⟩
              exact ⟨by simp, hb9⟩
            clear x0 x1 hxl hol hsz hb3 h3 hbV k11 n1 HLJ HOV
            go_wp2
            rw [← hV]
            obtain ⟨b11, hb11⟩ : ∃ b11, b11 = w13.heap.size := ⟨_, rfl⟩
            rw [← hb11] at HX1 HXB ⊢
            clear hV hb11
            generalize (d.t.N i).1 = fk
            generalize (d.t.N i).2.length = lz at HX1 HMA HAL ⊢
            refine wp_region_E (by kernel_rfl) [some 135, some 136, some 137, some 138, some 139, some 140, some 141, some 142, some 143, some 144] [none, none, none, none, none, none, none, none, none, none, none, none, none, none, none, none, none, none, none, none, none, none, none, none, none, none, none, none, none, none, none, none, none, none, none, none, none, none, none, none, none, none, none, none, none, none, none, none, none, none, none, none, none, none, none, none, none, none, none, none, none, none, none, none, none, none, none, none, none, none, none, none, none, none, none, none, none, none, none, none, none, none, none, none, none, none, none, none, none, none, none, none, none, none, none, none, none, none, none, none, none, none, none, none, none, none, none, none, none, none, none, none, none, none, none, none, none, none, none, none, none, none, none, none, none, none, none, none, none, none, none, none, none, none, none, some 135, some 136, some 137, some 138, some 139, some 140, some 141, some 142, some 143, some 144] (fun U => by kernel_rfl) [fun u => u = (.pointer (some ⟨b11, 1, none⟩)), fun u => u = (.slice (some ⟨b9, 0, none⟩) lz lz), fun u => u = (.pointer (some ⟨bW, 0, none⟩)), fun u => u = (.slice (some ⟨bN, 0, none⟩) d.t.nn cN), fun u => u = (.int .i64 (i : Nat)), fun u => u = (.pointer (some ⟨bN, i * 2, none⟩)), fun u => u = (.pointer (some ⟨bN, i * 2 + 1, none⟩)), fun u => u = (.slice aZ lz cZ), fun u => u = (.bool true), fun u => u = (.bool false)] (fun L U wr => Below V.heap.size V wr) (by kernel_rfl) (by decide) (by kernel_rfl) (by kernel_rfl) ?_ ?_ ?_
            · exact fun U => (Below.refl _ _).drew
            · refine StepsE.run rfl ?_ ?_
              · intro L U wr hC hP hlk hcl haf A K hFm hK
                simp [Aft, Region.binds] at haf
                have e16 : A.tmps[16]? = some (.pointer (some ⟨b11, 0, none⟩)) := (hFm.old 16 (by decide)).trans (by kernel_rfl)
                have m7 := (hC.cell (p := ⟨b11, 1, none⟩) HXB.out).trans HX1.out
                have HC : Hid _ := hC
                clear hC
                refine ⟨?_⟩
                go_simp
                exact hK _ _ rfl HC.out
              refine StepsE.run rfl ?_ ?_
              · intro L U wr hC hP hlk hcl haf A K hFm hK
                simp [Aft, Region.binds] at haf
                have g0 : U 135 = (.pointer (some ⟨b11, 1, none⟩)) := hP 0 135 (by simp [haf]) rfl
                have e135 : A.tmps[135]? = some (.pointer (some ⟨b11, 1, none⟩)) := hFm.is 0 135 rfl g0
                have m7 := (hC.cell (p := ⟨b11, 1, none⟩) HXB.out).trans HX1.out
                have HC : Hid _ := hC
                clear hC
                refine ⟨?_⟩
                go_simp
                exact hK _ _ rfl HC.out
              refine StepsE.run rfl ?_ ?_
              · intro L U wr hC hP hlk hcl haf A K hFm hK
                simp [Aft, Region.binds] at haf
                have e6 : A.tmps[6]? = some (.pointer (some ⟨bW, 0, none⟩)) := (hFm.old 6 (by decide)).trans (by kernel_rfl)
                have m7 := (hC.cell (p := ⟨bW, 0, none⟩) HWB.out).trans HMW.out
                have HC : Hid _ := hC
                clear hC
                refine ⟨?_⟩
                go_simp
                exact hK _ _ rfl HC.out
              refine StepsE.run rfl ?_ ?_
              · intro L U wr hC hP hlk hcl haf A K hFm hK
                simp [Aft, Region.binds] at haf
                have g2 : U 137 = (.pointer (some ⟨bW, 0, none⟩)) := hP 2 137 (by simp [haf]) rfl
                have e137 : A.tmps[137]? = some (.pointer (some ⟨bW, 0, none⟩)) := hFm.is 2 137 rfl g2
                have m7 := (hC.cell (p := ⟨bW, 0, none⟩) HWB.out).trans HMW.out
                have HC : Hid _ := hC
                clear hC
                refine ⟨?_⟩
                go_simp
                exact hK _ _ rfl HC.out
              refine StepsE.run rfl ?_ ?_
              · intro L U wr hC hP hlk hcl haf A K hFm hK
                simp [Aft, Region.binds] at haf
                have e10 : A.tmps[10]? = some (.int .i64 (i : Nat)) := (hFm.old 10 (by decide)).trans (by kernel_rfl)
                have HC : Hid _ := hC
                clear hC
                refine ⟨?_⟩
                go_simp
                exact hK _ _ rfl HC.out
              refine StepsE.run rfl ?_ ?_
              · intro L U wr hC hP hlk hcl haf A K hFm hK
                simp [Aft, Region.binds] at haf
                have g3 : U 138 = (.slice (some ⟨bN, 0, none⟩) d.t.nn cN) := hP 3 138 (by simp [haf]) rfl
                have e138 : A.tmps[138]? = some (.slice (some ⟨bN, 0, none⟩) d.t.nn cN) := hFm.is 3 138 rfl g3
                have g4 : U 139 = (.int .i64 (i : Nat)) := hP 4 139 (by simp [haf]) rfl
                have e139 : A.tmps[139]? = some (.int .i64 (i : Nat)) := hFm.is 4 139 rfl g4
                have HC : Hid _ := hC
                clear hC
                refine ⟨?_⟩
                go_simp
                exact hK _ _ rfl HC.out
              refine StepsE.run rfl ?_ ?_
              · intro L U wr hC hP hlk hcl haf A K hFm hK
                simp [Aft, Region.binds] at haf
                have g5 : U 140 = (.pointer (some ⟨bN, i * 2, none⟩)) := hP 5 140 (by simp [haf]) rfl
                have e140 : A.tmps[140]? = some (.pointer (some ⟨bN, i * 2, none⟩)) := hFm.is 5 140 rfl g5
                have HC : Hid _ := hC
                clear hC
                refine ⟨?_⟩
                go_simp
                exact hK _ _ rfl HC.out
              refine StepsE.run rfl ?_ ?_
              · intro L U wr hC hP hlk hcl haf A K hFm hK
                simp [Aft, Region.binds] at haf
                have g6 : U 141 = (.pointer (some ⟨bN, i * 2 + 1, none⟩)) := hP 6 141 (by simp [haf]) rfl
                have e141 : A.tmps[141]? = some (.pointer (some ⟨bN, i * 2 + 1, none⟩)) := hFm.is 6 141 rfl g6
                have m7 := (hC.cell (p := ⟨bN, i * 2 + 1, none⟩) HNB.out).trans HMA.out
                have HC : Hid _ := hC
                clear hC
                refine ⟨?_⟩
                go_simp
                exact hK _ _ rfl HC.out
              refine StepsE.run rfl ?_ ?_
              · intro L U wr hC hP hlk hcl haf A K hFm hK
                simp [Aft, Region.binds] at haf
                have g1 : U 136 = (.slice (some ⟨b9, 0, none⟩) lz lz) := hP 1 136 (by simp [haf]) rfl
                have e136 : A.tmps[136]? = some (.slice (some ⟨b9, 0, none⟩) lz lz) := hFm.is 1 136 rfl g1
                have g7 : U 142 = (.slice aZ lz cZ) := hP 7 142 (by simp [haf]) rfl
                have e142 : A.tmps[142]? = some (.slice aZ lz cZ) := hFm.is 7 142 rfl g7
                refine ⟨?_⟩
                have HB9 : Hid _ := hC
                clear hC
                go_simp
                refine (HAL.out wr HB9.out).mono ?_
                rintro e w1 ⟨rfl, hb9⟩
                go_simp
                exact hK _ _ (rfl) (HB9.out.trans (hb9.mono HB9.out.size))
              refine StepsE.run rfl ?_ StepsE.nil
              · intro L U wr hC hP hlk hcl haf A K hFm hK
                simp [Aft, Region.binds] at haf
                have g8 : U 143 = (.bool true) := hP 8 143 (by simp [haf]) rfl
                have e143 : A.tmps[143]? = some (.bool true) := hFm.is 8 143 rfl g8
                have HC : Hid _ := hC
                clear hC
                refine ⟨?_⟩
                go_simp
                exact hK _ _ rfl HC.out
            intro L U7 V7 hall hC hP
            have H7 : Hid (Lw w1 V7 g d d (.slice (some ⟨bN, 0, none⟩) d.t.nn cN) (.slice aE d.f.ne cE) rg bW (.slice none 0 0) 0 (fun _ => 0)) := HLV.out.below hC
            have e144 : U7 144 = .bool false := hP 9 144 rfl
            simp only [setM_some, setM_none, setM_nil]
            rw [e144]
            clear hC hP hall e144 HAL HX1 HXB HMW HWB HMA HNB HLV
            go_wp2
            go_roundw
            case rel => exact ⟨i + 1, by go_num, by omega, H7.out⟩
            case measure => simp [intOf] <;> omega
      · have hliI : ¬ ((i : Int) < (d.t.nn : Int)) := by omega
        have HMW : Hid (wl.cell? ⟨bW, 0, none⟩ = some (.slice aN d.t.nn cN)) := c0
        have HWB : Hid (bW < wl.heap.size) := hlb
        have HLN : Hid (∀ wr, Below wl.heap.size wl wr → Calls Try.prog 17 #[.pointer (some ⟨g, 0, none⟩)] wr fun e w' => e = .returned (.int .i64 (d.t.nn : Nat)) ∧ Below wr.heap.size wr w') := fun wr hb => Len_any g d wr (H5.out.gw.below hb) (by omega)
        have HBE : Hid (Below w.heap.size w wl) := HB1.out.trans (H5.out.bel.mono HB1.out.size)
        go_wp2
        clear c0 c1 hlb H5
        refine wp_region_E (by kernel_rfl) [some 145, some 146, some 147, some 148, some 149, some 150, some 4] [none, none, none, none, some 4, none, none, none, none, none, none, none, none, none, none, none, none, none, none, none, none, none, none, none, none, none, none, none, none, none, none, none, none, none, none, none, none, none, none, none, none, none, none, none, none, none, none, none, none, none, none, none, none, none, none, none, none, none, none, none, none, none, none, none, none, none, none, none, none, none, none, none, none, none, none, none, none, none, none, none, none, none, none, none, none, none, none, none, none, none, none, none, none, none, none, none, none, none, none, none, none, none, none, none, none, none, none, none, none, none, none, none, none, none, none, none, none, none, none, none, none, none, none, none, none, none, none, none, none, none, none, none, none, none, none, none, none, none, none, none, none, none, none, none, none, some 145, some 146, some 147, some 148, some 149, some 150] (fun U => by kernel_rfl) [fun u => u = (.pointer (some ⟨g, 0, none⟩)), fun u => u = (.int .i64 (d.t.nn : Nat)), fun u => u = (.pointer (some ⟨bW, 0, none⟩)), fun u => u = (.slice aN d.t.nn cN), fun u => u = (.int .i64 (d.t.nn : Nat)), fun u => u = (.bool true), fun u => u = (.bool true)] (fun L U wr => Below wl.heap.size wl wr) (by kernel_rfl) (by decide) (by kernel_rfl) (by kernel_rfl) ?_ ?_ ?_
        · exact fun U => (Below.refl _ _).drew
        · refine StepsE.run rfl ?_ ?_
          · intro L U wr hC hP hlk hcl haf A K hFm hK
            simp [Aft, Region.binds] at haf
            have e5 : A.tmps[5]? = some (.pointer (some ⟨g, 0, none⟩)) := (hFm.old 5 (by decide)).trans (by kernel_rfl)
            have HC : Hid _ := hC
            clear hC
            refine ⟨?_⟩
            go_simp
            exact hK _ _ rfl HC.out
          refine StepsE.run rfl ?_ ?_
          · intro L U wr hC hP hlk hcl haf A K hFm hK
            simp [Aft, Region.binds] at haf
            have g0 : U 145 = (.pointer (some ⟨g, 0, none⟩)) := hP 0 145 (by simp [haf]) rfl
            have e145 : A.tmps[145]? = some (.pointer (some ⟨g, 0, none⟩)) := hFm.is 0 145 rfl g0
            refine ⟨?_⟩
            have HB9 : Hid _ := hC
            clear hC
            go_simp
            refine (HLN.out wr HB9.out).mono ?_
            rintro e w1 ⟨rfl, hb9⟩
            go_simp
            exact hK _ _ (rfl) (HB9.out.trans (hb9.mono HB9.out.size))
          refine StepsE.run rfl ?_ ?_
          · intro L U wr hC hP hlk hcl haf A K hFm hK
            simp [Aft, Region.binds] at haf
            have e6 : A.tmps[6]? = some (.pointer (some ⟨bW, 0, none⟩)) := (hFm.old 6 (by decide)).trans (by kernel_rfl)
            have m7 := (hC.cell (p := ⟨bW, 0, none⟩) HWB.out).trans HMW.out
            have HC : Hid _ := hC
            clear hC
            refine ⟨?_⟩
            go_simp
            exact hK _ _ rfl HC.out
          refine StepsE.run rfl ?_ ?_
          · intro L U wr hC hP hlk hcl haf A K hFm hK
            simp [Aft, Region.binds] at haf
            have g2 : U 147 = (.pointer (some ⟨bW, 0, none⟩)) := hP 2 147 (by simp [haf]) rfl
            have e147 : A.tmps[147]? = some (.pointer (some ⟨bW, 0, none⟩)) := hFm.is 2 147 rfl g2
            have m7 := (hC.cell (p := ⟨bW, 0, none⟩) HWB.out).trans HMW.out
            have HC : Hid _ := hC
            clear hC
            refine ⟨?_⟩
            go_simp
            exact hK _ _ rfl HC.out
          refine StepsE.run rfl ?_ ?_
          · intro L U wr hC hP hlk hcl haf A K hFm hK
            simp [Aft, Region.binds] at haf
            have g3 : U 148 = (.slice aN d.t.nn cN) := hP 3 148 (by simp [haf]) rfl
            have e148 : A.tmps[148]? = some (.slice aN d.t.nn cN) := hFm.is 3 148 rfl g3
            have HC : Hid _ := hC
            clear hC
            refine ⟨?_⟩
            go_simp
            exact hK _ _ rfl HC.out
          refine StepsE.run rfl ?_ ?_
          · intro L U wr hC hP hlk hcl haf A K hFm hK
            simp [Aft, Region.binds] at haf
            have g1 : U 146 = (.int .i64 (d.t.nn : Nat)) := hP 1 146 (by simp [haf]) rfl
            have e146 : A.tmps[146]? = some (.int .i64 (d.t.nn : Nat)) := hFm.is 1 146 rfl g1
            have g4 : U 149 = (.int .i64 (d.t.nn : Nat)) := hP 4 149 (by simp [haf]) rfl
            have e149 : A.tmps[149]? = some (.int .i64 (d.t.nn : Nat)) := hFm.is 4 149 rfl g4
            have HC : Hid _ := hC
            clear hC
            refine ⟨?_⟩
            go_simp
            exact hK _ _ rfl HC.out
          refine StepsE.run rfl ?_ StepsE.nil
          · intro L U wr hC hP hlk hcl haf A K hFm hK
            simp [Aft, Region.binds] at haf
            have g5 : U 150 = (.bool true) := hP 5 150 (by simp [haf]) rfl
            have e150 : A.tmps[150]? = some (.bool true) := hFm.is 5 150 rfl g5
            have HC : Hid _ := hC
            clear hC
            refine ⟨?_⟩
            go_simp
            exact hK _ _ rfl HC.out
        intro L U8 V8 hall hC hP
        have HB8 : Hid (Below wl.heap.size wl V8) := hC
        have e4 : U8 4 = .bool true := hP 6 4 rfl
        simp only [setM_some, setM_none, setM_nil]
        rw [e4]
        clear hC hP hall e4 HLN HMW HWB
        go_wp2
        go_ret
        exact ⟨rfl, HBE.out.trans (HB8.out.mono HBE.out.size)⟩
  | true =>
    obtain ⟨na, rfl⟩ : ∃ na : Nat, at_ = na := ⟨at_.toNat, by simp [okIn] at hok; omega⟩
    have hna : na < d.t.nn := by simp [okIn] at hok; omega
    have HOK : Hid (okIn d.t.nn (na : Int) = true) := hok
    refine (At_any g d na W2 HLW.out.gw hna (by omega) (by have := HD.out.2.2.2.1 na hna; omega)).mono ?_
    rintro e w3 ⟨b9, rfl, hol, hsz, hb3⟩
    have h3 := HLW.out.below hb3
    generalize (d.t.N na).1 = fk0
    generalize (d.t.N na).2.length = lz0
    obtain ⟨V, hV⟩ : ∃ V, V = w3.alloc (.cells #[.string fk0, .slice (some ⟨b9, 0, none⟩) lz0 lz0] 43 (0, 0)) := ⟨_, rfl⟩
    have hbV : Below w3.heap.size w3 V := by rw [hV]; go_grown
    have H3 : Hid (Lw w1 V g d d (.slice aN d.t.nn cN) (.slice aE d.f.ne cE) rg bW (.slice none 0 0) 0 (fun _ => 0)) := h3.below hbV
    obtain ⟨c0, c1, -, -⟩ := h3.bw.two
    have hlb := h3.bw.lt
    clear h3 hb3 hbV hok HLW hol hsz
    go_wp2_with fail
    rw [← hV]
    obtain ⟨b8, hb8⟩ : ∃ b8, b8 = w3.heap.size := ⟨_, rfl⟩
    rw [← hb8]
    clear hV hb8
    refine (Is_any aN aE d.t.nn cN d.f.ne cE na V (by omega)).mono ?_
    rintro e w9 ⟨rfl, hb9⟩
    rw [HOK.out]
    have HL9 : Hid (Lw w1 w9 g d d (.slice aN d.t.nn cN) (.slice aE d.f.ne cE) rg bW (.slice none 0 0) 0 (fun _ => 0)) := H3.out.below hb9
    clear hb9 H3 c0 c1 hlb
    go_wp2
    go_loopw [10] (fun v10 wr => ∃ (i : Nat), v10 = .int .i64 (i : Nat) ∧ i ≤ d.t.nn ∧ Hid (Lw w1 wr g d d (.slice aN d.t.nn cN) (.slice aE d.f.ne cE) rg bW (.slice none 0 0) 0 (fun _ => 0))) (fun v _ => d.t.nn - (intOf v).toNat)
    case atStart => exact ⟨0, rfl, Nat.zero_le _, HL9.out⟩
    case round =>
      rename World => wl
      clear HL9 HOK
      obtain ⟨i, rfl, hi, H5⟩ := hrel
      obtain ⟨c0, c1, -, -⟩ := H5.out.bw.two
      have hlb := H5.out.bw.lt
      by_cases hli : i < d.t.nn
      · have hliI : (i : Int) < (d.t.nn : Int) := by omega
        obtain ⟨bN, cN', hvN, -, -⟩ := H5.out.r.nodes.open i hli
        injection hvN with hvN e2 e3
        clear e2
        subst hvN e3
        obtain ⟨aZ, cZ, hrg, -, -, -, -⟩ := (H5.out.r.args i hli).shape
        have HRG : Hid (rg i = .slice aZ (d.t.N i).2.length cZ) := hrg
        clear hrg
        go_wp2_with fail
        refine (At_any g d i wl H5.out.gw hli (by omega) (by have := HD.out.2.2.2.1 i hli; omega)).mono ?_
        rintro e w3 ⟨b9, rfl, hol, hsz, hb3⟩
        have h3 := H5.out.below hb3
        have HF9 : Hid (¬ Fh g d b9 ∧ b9 ≠ bW ∧ ¬ Fz (.slice (some ⟨bN, 0, none⟩) d.t.nn cN) (.slice aE d.f.ne cE) rg d.t.nn b9 ∧ w1.heap.size ≤ b9) := ⟨fun hf => by have := H5.out.gw.hlt hf; omega, by omega, fun hf => by have := H5.out.r.lt hf; omega, by have := H5.out.bel.size; omega⟩
        obtain ⟨V, hV⟩ : ∃ V, V = w3.alloc (.cells #[.string (d.t.N i).1, .slice (some ⟨b9, 0, none⟩) (d.t.N i).2.length (d.t.N i).2.length] 43 (0, 0)) := ⟨_, rfl⟩
        have hbV : Below w3.heap.size w3 V := by rw [hV]; go_grown
        have HLV : Hid (Lw w1 V g d d (.slice (some ⟨bN, 0, none⟩) d.t.nn cN) (.slice aE d.f.ne cE) rg bW (.slice none 0 0) 0 (fun _ => 0)) := h3.below hbV
        have HOV : Hid (OL 1 3 V (.slice (some ⟨b9, 0, none⟩) (d.t.N i).2.length (d.t.N i).2.length) (d.t.N i).2.length (natC (d.t.N i).2)) := hol.stay (fun b hb => hbV.block b (hol.lt hb))
        have k11 : Blk 43 V w3.heap.size #[.string (d.t.N i).1, .slice (some ⟨b9, 0, none⟩) (d.t.N i).2.length (d.t.N i).2.length] := by rw [hV]; exact heap_alloc_new w3 _
        have HK11 : Hid (Blk 43 V w3.heap.size #[.string (d.t.N i).1, .slice (some ⟨b9, 0, none⟩) (d.t.N i).2.length (d.t.N i).2.length]) := k11
        have HX0 : Hid (V.cell? ⟨w3.heap.size, 0, none⟩ = some (.string (d.t.N i).1)) := k11.two.1
        have HX1 : Hid (V.cell? ⟨w3.heap.size, 1, none⟩ = some (.slice (some ⟨b9, 0, none⟩) (d.t.N i).2.length (d.t.N i).2.length)) := k11.two.2.1
        have HXB : Hid (w3.heap.size < V.heap.size) := k11.lt
        have HMW : Hid (V.cell? ⟨bW, 0, none⟩ = some (.slice (some ⟨bN, 0, none⟩) d.t.nn cN)) := HLV.out.bw.two.1
        have HWB : Hid (bW < V.heap.size) := HLV.out.bw.lt
        have n0 := HLV.out.r.nodes.cell (i := i) hli (j := 0) (by omega)
        have n1 := HLV.out.r.nodes.cell (i := i) hli (j := 1) (by omega)
        simp only [Nat.add_zero, List.getElem?_cons_zero, List.getElem?_cons_succ] at n0 n1
        rw [HRG.out] at n1
        have HMF : Hid (V.cell? ⟨bN, i * 2, none⟩ = some (.string (d.t.N i).1)) := n0
        have HMA : Hid (V.cell? ⟨bN, i * 2 + 1, none⟩ = some (.slice aZ (d.t.N i).2.length cZ)) := n1
        have HNB : Hid (bN < V.heap.size) := HLV.out.r.nodes.lt rfl
        have HND : Hid (∀ wr, Below V.heap.size V wr → Calls Try.prog 15 #[.pointer (some ⟨g, 0, none⟩), .string (d.t.N i).1, .slice aZ (d.t.N i).2.length cZ] wr fun e w' => e = .returned (.tuple #[.int .i64 (i : Nat), .int .i64 0]) ∧ Below wr.heap.size wr w') := fun wr hb => node_again (HLV.out.below hb) hli (HD.out.2.2.2.2 i hli) (HD.out.2.2.2.1 i hli) HD.out.1 HD.out.2.1 HRG.out
        have HAL : Hid (∀ wr, Below V.heap.size V wr → Calls Try.prog 16 #[.slice (some ⟨b9, 0, none⟩) (d.t.N i).2.length (d.t.N i).2.length, .slice aZ (d.t.N i).2.length cZ] wr fun e w' => e = .returned (.bool true) ∧ Below wr.heap.size wr w') := by
          intro wr hb
          have ha := (HLV.out.below hb).r.args i hli
          rw [HRG.out] at ha
          have h20 := HD.out.2.2.2.1 i hli
          refine (Alike_any _ _ _ _ wr (ai_of_ol (HOV.out.stay (fun b hb9 => hb.block b (HOV.out.lt hb9))) (by omega)) (ai_of_ol ha (by omega))).mono ?_
          rintro e w' ⟨rfl, hb9⟩
          exact ⟨by simp, hb9⟩
        have h20 : (d.t.N i).2.length ≤ 20 := HD.out.2.2.2.1 i hli
        have HOZ : Hid (∃ z : Nat → Int, OL 1 3 V (.slice (some ⟨b9, 0, none⟩) (d.t.N i).2.length (d.t.N i).2.length) (d.t.N i).2.length (fun k => [.int .i64 (z k)])) := ⟨_, HOV.out⟩
        clear c0 c1 hlb hol hsz hb3 h3 hbV k11 n0 n1 H5 HOV
        go_wp2
        rw [← hV]
        obtain ⟨b11, hb11⟩ : ∃ b11, b11 = w3.heap.size := ⟨_, rfl⟩
        rw [← hb11] at HX0 HX1 HXB HK11 ⊢
        clear hV hb11
        generalize (d.t.N i).1 = fk at HX0 HMF HND HK11 ⊢
        generalize (d.t.N i).2.length = lz at HX1 HMA HND HAL HK11 HOZ h20 ⊢
        refine wp_region_E (by kernel_rfl) [some 68, some 69, some 70, some 71, some 72, some 73, some 74, some 75, some 76, some 77, some 78, some 79, some 80, some 81, some 67, some 82, some 83, some 13, some 14] [none, none, none, none, none, none, none, none, none, none, none, none, none, some 13, some 14, none, none, none, none, none, none, none, none, none, none, none, none, none, none, none, none, none, none, none, none, none, none, none, none, none, none, none, none, none, none, none, none, none, none, none, none, none, none, none, none, none, none, none, none, none, none, none, none, none, none, none, none, some 67, some 68, some 69, some 70, some 71, some 72, some 73, some 74, some 75, some 76, some 77, some 78, some 79, some 80, some 81, some 82, some 83] (fun U => by kernel_rfl) [fun u => u = (.pointer (some ⟨g, 0, none⟩)), fun u => u = (.pointer (some ⟨bW, 0, none⟩)), fun u => u = (.slice (some ⟨bN, 0, none⟩) d.t.nn cN), fun u => u = (.int .i64 (i : Nat)), fun u => u = (.pointer (some ⟨bN, i * 2, none⟩)), fun u => u = (.pointer (some ⟨bN, i * 2, none⟩)), fun u => u = (.string fk), fun u => u = (.pointer (some ⟨bW, 0, none⟩)), fun u => u = (.slice (some ⟨bN, 0, none⟩) d.t.nn cN), fun u => u = (.int .i64 (i : Nat)), fun u => u = (.pointer (some ⟨bN, i * 2, none⟩)), fun u => u = (.pointer (some ⟨bN, i * 2 + 1, none⟩)), fun u => u = (.slice aZ lz cZ), fun u => u = (.tuple #[.int .i64 (i : Nat), .int .i64 0]), fun u => u = (.tuple #[.int .i64 (i : Nat), .int .i64 0]), fun u => u = (.int .i64 (i : Nat)), fun u => u = (.int .i64 0), fun u => u = (.int .i64 (i : Nat)), fun u => u = (.int .i64 0)] (fun L U wr => Below V.heap.size V wr) (by kernel_rfl) (by decide) (by kernel_rfl) (by kernel_rfl) ?_ ?_ ?_
        · exact fun U => (Below.refl _ _).drew
        · refine StepsE.run rfl ?_ ?_
          · intro L U wr hC hP hlk hcl haf A K hFm hK
            simp [Aft, Region.binds] at haf
            have e5 : A.tmps[5]? = some (.pointer (some ⟨g, 0, none⟩)) := (hFm.old 5 (by decide)).trans (by kernel_rfl)
            have HC : Hid _ := hC
            clear hC
            refine ⟨?_⟩
            go_simp
            exact hK _ _ rfl HC.out
          refine StepsE.run rfl ?_ ?_
          · intro L U wr hC hP hlk hcl haf A K hFm hK
            simp [Aft, Region.binds] at haf
            have e6 : A.tmps[6]? = some (.pointer (some ⟨bW, 0, none⟩)) := (hFm.old 6 (by decide)).trans (by kernel_rfl)
            have m7 := (hC.cell (p := ⟨bW, 0, none⟩) HWB.out).trans HMW.out
            have HC : Hid _ := hC
            clear hC
            refine ⟨?_⟩
            go_simp
            exact hK _ _ rfl HC.out
          refine StepsE.run rfl ?_ ?_
          · intro L U wr hC hP hlk hcl haf A K hFm hK
            simp [Aft, Region.binds] at haf
            have g1 : U 69 = (.pointer (some ⟨bW, 0, none⟩)) := hP 1 69 (by simp [haf]) rfl
            have e69 : A.tmps[69]? = some (.pointer (some ⟨bW, 0, none⟩)) := hFm.is 1 69 rfl g1
            have m7 := (hC.cell (p := ⟨bW, 0, none⟩) HWB.out).trans HMW.out
            have HC : Hid _ := hC
            clear hC
            refine ⟨?_⟩
            go_simp
            exact hK _ _ rfl HC.out
          refine StepsE.run rfl ?_ ?_
          · intro L U wr hC hP hlk hcl haf A K hFm hK
            simp [Aft, Region.binds] at haf
            have e10 : A.tmps[10]? = some (.int .i64 (i : Nat)) := (hFm.old 10 (by decide)).trans (by kernel_rfl)
            have HC : Hid _ := hC
            clear hC
            refine ⟨?_⟩
            go_simp
            exact hK _ _ rfl HC.out
          refine StepsE.run rfl ?_ ?_
          · intro L U wr hC hP hlk hcl haf A K hFm hK
            simp [Aft, Region.binds] at haf
            have g2 : U 70 = (.slice (some ⟨bN, 0, none⟩) d.t.nn cN) := hP 2 70 (by simp [haf]) rfl
            have e70 : A.tmps[70]? = some (.slice (some ⟨bN, 0, none⟩) d.t.nn cN) := hFm.is 2 70 rfl g2
            have g3 : U 71 = (.int .i64 (i : Nat)) := hP 3 71 (by simp [haf]) rfl
            have e71 : A.tmps[71]? = some (.int .i64 (i : Nat)) := hFm.is 3 71 rfl g3
            have HC : Hid _ := hC
            clear hC
            refine ⟨?_⟩
            go_simp
            exact hK _ _ rfl HC.out
          refine StepsE.run rfl ?_ ?_
          · intro L U wr hC hP hlk hcl haf A K hFm hK
            simp [Aft, Region.binds] at haf
            have g4 : U 72 = (.pointer (some ⟨bN, i * 2, none⟩)) := hP 4 72 (by simp [haf]) rfl
            have e72 : A.tmps[72]? = some (.pointer (some ⟨bN, i * 2, none⟩)) := hFm.is 4 72 rfl g4
            have HC : Hid _ := hC
            clear hC
            refine ⟨?_⟩
            go_simp
            exact hK _ _ rfl HC.out
          refine StepsE.run rfl ?_ ?_
          · intro L U wr hC hP hlk hcl haf A K hFm hK
            simp [Aft, Region.binds] at haf
            have g5 : U 73 = (.pointer (some ⟨bN, i * 2, none⟩)) := hP 5 73 (by simp [haf]) rfl
            have e73 : A.tmps[73]? = some (.pointer (some ⟨bN, i * 2, none⟩)) := hFm.is 5 73 rfl g5
            have m7 := (hC.cell (p := ⟨bN, i * 2, none⟩) HNB.out).trans HMF.out
            have HC : Hid _ := hC
            clear hC
            refine ⟨?_⟩
            go_simp
            exact hK _ _ rfl HC.out
          refine StepsE.run rfl ?_ ?_
          · intro L U wr hC hP hlk hcl haf A K hFm hK
            simp [Aft, Region.binds] at haf
            have e6 : A.tmps[6]? = some (.pointer (some ⟨bW, 0, none⟩)) := (hFm.old 6 (by decide)).trans (by kernel_rfl)
            have m7 := (hC.cell (p := ⟨bW, 0, none⟩) HWB.out).trans HMW.out
            have HC : Hid _ := hC
            clear hC
            refine ⟨?_⟩
            go_simp
            exact hK _ _ rfl HC.out
          refine StepsE.run rfl ?_ ?_
          · intro L U wr hC hP hlk hcl haf A K hFm hK
            simp [Aft, Region.binds] at haf
            have g7 : U 75 = (.pointer (some ⟨bW, 0, none⟩)) := hP 7 75 (by simp [haf]) rfl
            have e75 : A.tmps[75]? = some (.pointer (some ⟨bW, 0, none⟩)) := hFm.is 7 75 rfl g7
            have m7 := (hC.cell (p := ⟨bW, 0, none⟩) HWB.out).trans HMW.out
            have HC : Hid _ := hC
            clear hC
            refine ⟨?_⟩
            go_simp
            exact hK _ _ rfl HC.out
          refine StepsE.run rfl ?_ ?_
          · intro L U wr hC hP hlk hcl haf A K hFm hK
            simp [Aft, Region.binds] at haf
            have e10 : A.tmps[10]? = some (.int .i64 (i : Nat)) := (hFm.old 10 (by decide)).trans (by kernel_rfl)
            have HC : Hid _ := hC
            clear hC
            refine ⟨?_⟩
            go_simp
            exact hK _ _ rfl HC.out
          refine StepsE.run rfl ?_ ?_
          · intro L U wr hC hP hlk hcl haf A K hFm hK
            simp [Aft, Region.binds] at haf
            have g8 : U 76 = (.slice (some ⟨bN, 0, none⟩) d.t.nn cN) := hP 8 76 (by simp [haf]) rfl
            have e76 : A.tmps[76]? = some (.slice (some ⟨bN, 0, none⟩) d.t.nn cN) := hFm.is 8 76 rfl g8
            have g9 : U 77 = (.int .i64 (i : Nat)) := hP 9 77 (by simp [haf]) rfl
            have e77 : A.tmps[77]? = some (.int .i64 (i : Nat)) := hFm.is 9 77 rfl g9
            have HC : Hid _ := hC
            clear hC
            refine ⟨?_⟩
            go_simp
            exact hK _ _ rfl HC.out
          refine StepsE.run rfl ?_ ?_
          · intro L U wr hC hP hlk hcl haf A K hFm hK
            simp [Aft, Region.binds] at haf
            have g10 : U 78 = (.pointer (some ⟨bN, i * 2, none⟩)) := hP 10 78 (by simp [haf]) rfl
            have e78 : A.tmps[78]? = some (.pointer (some ⟨bN, i * 2, none⟩)) := hFm.is 10 78 rfl g10
            have HC : Hid _ := hC
            clear hC
            refine ⟨?_⟩
            go_simp
            exact hK _ _ rfl HC.out
          refine StepsE.run rfl ?_ ?_
          · intro L U wr hC hP hlk hcl haf A K hFm hK
            simp [Aft, Region.binds] at haf
            have g11 : U 79 = (.pointer (some ⟨bN, i * 2 + 1, none⟩)) := hP 11 79 (by simp [haf]) rfl
            have e79 : A.tmps[79]? = some (.pointer (some ⟨bN, i * 2 + 1, none⟩)) := hFm.is 11 79 rfl g11
            have m7 := (hC.cell (p := ⟨bN, i * 2 + 1, none⟩) HNB.out).trans HMA.out
            have HC : Hid _ := hC
            clear hC
            refine ⟨?_⟩
            go_simp
            exact hK _ _ rfl HC.out
          refine StepsE.run rfl ?_ ?_
          · intro L U wr hC hP hlk hcl haf A K hFm hK
            simp [Aft, Region.binds] at haf
            have g0 : U 68 = (.pointer (some ⟨g, 0, none⟩)) := hP 0 68 (by simp [haf]) rfl
            have e68 : A.tmps[68]? = some (.pointer (some ⟨g, 0, none⟩)) := hFm.is 0 68 rfl g0
            have g6 : U 74 = (.string fk) := hP 6 74 (by simp [haf]) rfl
            have e74 : A.tmps[74]? = some (.string fk) := hFm.is 6 74 rfl g6
            have g12 : U 80 = (.slice aZ lz cZ) := hP 12 80 (by simp [haf]) rfl
            have e80 : A.tmps[80]? = some (.slice aZ lz cZ) := hFm.is 12 80 rfl g12
            refine ⟨?_⟩
            have HB9 : Hid _ := hC
            clear hC
            go_simp
            refine (HND.out wr HB9.out).mono ?_
            rintro e w1 ⟨rfl, hb9⟩
            go_simp
            exact hK _ _ (rfl) (HB9.out.trans (hb9.mono HB9.out.size))
          refine StepsE.run rfl ?_ ?_
          · intro L U wr hC hP hlk hcl haf A K hFm hK
            simp [Aft, Region.binds] at haf
            have g13 : U 81 = (.tuple #[.int .i64 (i : Nat), .int .i64 0]) := hP 13 81 (by simp [haf]) rfl
            have e81 : A.tmps[81]? = some (.tuple #[.int .i64 (i : Nat), .int .i64 0]) := hFm.is 13 81 rfl g13
            have HC : Hid _ := hC
            clear hC
            refine ⟨?_⟩
            go_simp
            exact hK _ _ rfl HC.out
          refine StepsE.run rfl ?_ ?_
          · intro L U wr hC hP hlk hcl haf A K hFm hK
            simp [Aft, Region.binds] at haf
            have g14 : U 67 = (.tuple #[.int .i64 (i : Nat), .int .i64 0]) := hP 14 67 (by simp [haf]) rfl
            have e67 : A.tmps[67]? = some (.tuple #[.int .i64 (i : Nat), .int .i64 0]) := hFm.is 14 67 rfl g14
            have HC : Hid _ := hC
            clear hC
            refine ⟨?_⟩
            go_simp
            exact hK _ _ rfl HC.out
          refine StepsE.run rfl ?_ ?_
          · intro L U wr hC hP hlk hcl haf A K hFm hK
            simp [Aft, Region.binds] at haf
            have g14 : U 67 = (.tuple #[.int .i64 (i : Nat), .int .i64 0]) := hP 14 67 (by simp [haf]) rfl
            have e67 : A.tmps[67]? = some (.tuple #[.int .i64 (i : Nat), .int .i64 0]) := hFm.is 14 67 rfl g14
            have HC : Hid _ := hC
            clear hC
            refine ⟨?_⟩
            go_simp
            exact hK _ _ rfl HC.out
          refine StepsE.run rfl ?_ ?_
          · intro L U wr hC hP hlk hcl haf A K hFm hK
            simp [Aft, Region.binds] at haf
            have g15 : U 82 = (.int .i64 (i : Nat)) := hP 15 82 (by simp [haf]) rfl
            have e82 : A.tmps[82]? = some (.int .i64 (i : Nat)) := hFm.is 15 82 rfl g15
            have HC : Hid _ := hC
            clear hC
            refine ⟨?_⟩
            go_simp
            exact hK _ _ rfl HC.out
          refine StepsE.run rfl ?_ StepsE.nil
          · intro L U wr hC hP hlk hcl haf A K hFm hK
            simp [Aft, Region.binds] at haf
            have g16 : U 83 = (.int .i64 0) := hP 16 83 (by simp [haf]) rfl
            have e83 : A.tmps[83]? = some (.int .i64 0) := hFm.is 16 83 rfl g16
            have HC : Hid _ := hC
            clear hC
            refine ⟨?_⟩
            go_simp
            exact hK _ _ rfl HC.out
        intro L U5 V5 hall hC hP
        have HB5 : Hid (Below V.heap.size V V5) := hC
        have e13 : U5 13 = .int .i64 (i : Nat) := hP 17 13 rfl
        have e14 : U5 14 = .int .i64 0 := hP 18 14 rfl
        simp only [setM_some, setM_none, setM_nil]
        rw [e13, e14]
        clear hC hP hall e13 e14 HND
        go_wp2
        refine wp_region_E (by kernel_rfl) [some 84, some 85, some 86, some 87, some 88, some 89, some 90, some 91, some 92, some 93, some 94, some 95, some 96, some 97, some 98, some 99, some 100, some 101, some 102, some 103, some 104, some 105, some 106, some 107, some 108, some 109, some 110, some 111, some 112, some 113, some 114, some 115, some 116, some 117] [none, none, none, none, none, none, none, none, none, none, none, none, none, none, none, none, none, none, none, none, none, none, none, none, none, none, none, none, none, none, none, none, none, none, none, none, none, none, none, none, none, none, none, none, none, none, none, none, none, none, none, none, none, none, none, none, none, none, none, none, none, none, none, none, none, none, none, none, none, none, none, none, none, none, none, none, none, none, none, none, none, none, none, none, some 84, some 85, some 86, some 87, some 88, some 89, some 90, some 91, some 92, some 93, some 94, some 95, some 96, some 97, some 98, some 99, some 100, some 101, some 102, some 103, some 104, some 105, some 106, some 107, some 108, some 109, some 110, some 111, some 112, some 113, some 114, some 115, some 116, some 117] (fun U => by kernel_rfl) [fun u => u = (.bool true), fun u => u = (.bool false), fun u => u = (.bool false), fun u => u = (.pointer (some ⟨b11, 0, none⟩)), fun u => u = (.string fk), fun u => u = (.pointer (some ⟨bW, 0, none⟩)), fun u => u = (.slice (some ⟨bN, 0, none⟩) d.t.nn cN), fun u => u = (.int .i64 (i : Nat)), fun u => u = (.pointer (some ⟨bN, i * 2, none⟩)), fun u => u = (.pointer (some ⟨bN, i * 2, none⟩)), fun u => u = (.string fk), fun u => u = (.bool false), fun u => u = (.bool false), fun u => u = (.bool false), fun u => u = (.pointer (some ⟨b11, 1, none⟩)), fun u => u = (.slice (some ⟨b9, 0, none⟩) lz lz), fun u => u = (.pointer (some ⟨bW, 0, none⟩)), fun u => u = (.slice (some ⟨bN, 0, none⟩) d.t.nn cN), fun u => u = (.int .i64 (i : Nat)), fun u => u = (.pointer (some ⟨bN, i * 2, none⟩)), fun u => u = (.pointer (some ⟨bN, i * 2 + 1, none⟩)), fun u => u = (.slice aZ lz cZ), fun u => u = (.bool true), fun u => u = (.bool false), fun u => u = (.bool false), fun u => u = (.bool false), fun u => u = (.int .i64 (i : Nat)), fun u => u = (.int .i64 (i : Nat)), fun u => u = (.bool false), fun u => u = (.bool false), fun u => u = (.bool false), fun u => u = (.int .i64 0), fun u => u = (.bool false), fun u => u = (.bool false)] (fun L U wr => Below V.heap.size V wr) (by kernel_rfl) (by decide) (by kernel_rfl) (by kernel_rfl) ?_ ?_ ?_
        · exact fun U => HB5.out.drew
        · refine StepsE.run rfl ?_ ?_
          · intro L U wr hC hP hlk hcl haf A K hFm hK
            simp [Aft, Region.binds] at haf
            have e12 : A.tmps[12]? = some (.bool true) := (hFm.old 12 (by decide)).trans (by kernel_rfl)
            have HC : Hid _ := hC
            clear hC
            refine ⟨?_⟩
            go_simp
            exact hK _ _ rfl HC.out
          refine StepsE.run rfl ?_ ?_
          · intro L U wr hC hP hlk hcl haf A K hFm hK
            simp [Aft, Region.binds] at haf
            have g0 : U 84 = (.bool true) := hP 0 84 (by simp [haf]) rfl
            have e84 : A.tmps[84]? = some (.bool true) := hFm.is 0 84 rfl g0
            have HC : Hid _ := hC
            clear hC
            refine ⟨?_⟩
            go_simp
            exact hK _ _ rfl HC.out
          refine StepsE.run rfl ?_ ?_
          · intro L U wr hC hP hlk hcl haf A K hFm hK
            simp [Aft, Region.binds] at haf
            have g1 : U 85 = (.bool false) := hP 1 85 (by simp [haf]) rfl
            have e85 : A.tmps[85]? = some (.bool false) := hFm.is 1 85 rfl g1
            have HC : Hid _ := hC
            clear hC
            refine ⟨?_⟩
            go_simp
            exact hK _ _ rfl HC.out
          refine StepsE.runG 2 86 false rfl rfl rfl (fun L h => by simp [Aft, Region.binds] at h; simp [h]) (fun u h => h) ?_ ?_
          · intro L U wr hC hP hlk hcl haf A K hFm hK
            simp [Aft, Region.binds] at haf
            have e11 : A.tmps[11]? = some (.pointer (some ⟨b11, 0, none⟩)) := (hFm.old 11 (by decide)).trans (by kernel_rfl)
            have m7 := (hC.cell (p := ⟨b11, 0, none⟩) HXB.out).trans HX0.out
            have HC : Hid _ := hC
            clear hC
            refine ⟨?_⟩
            go_simp
            exact hK _ _ rfl HC.out
          refine StepsE.runG 2 86 false rfl rfl rfl (fun L h => by simp [Aft, Region.binds] at h; simp [h]) (fun u h => h) ?_ ?_
          · intro L U wr hC hP hlk hcl haf A K hFm hK
            simp [Aft, Region.binds] at haf
            have g3 : U 87 = (.pointer (some ⟨b11, 0, none⟩)) := hP 3 87 (by simp [haf]) rfl
            have e87 : A.tmps[87]? = some (.pointer (some ⟨b11, 0, none⟩)) := hFm.is 3 87 rfl g3
            have m7 := (hC.cell (p := ⟨b11, 0, none⟩) HXB.out).trans HX0.out
            have HC : Hid _ := hC
            clear hC
            refine ⟨?_⟩
            go_simp
            exact hK _ _ rfl HC.out
          refine StepsE.runG 2 86 false rfl rfl rfl (fun L h => by simp [Aft, Region.binds] at h; simp [h]) (fun u h => h) ?_ ?_
          · intro L U wr hC hP hlk hcl haf A K hFm hK
            simp [Aft, Region.binds] at haf
            have e6 : A.tmps[6]? = some (.pointer (some ⟨bW, 0, none⟩)) := (hFm.old 6 (by decide)).trans (by kernel_rfl)
            have m7 := (hC.cell (p := ⟨bW, 0, none⟩) HWB.out).trans HMW.out
            have HC : Hid _ := hC
            clear hC
            refine ⟨?_⟩
            go_simp
            exact hK _ _ rfl HC.out
          refine StepsE.runG 2 86 false rfl rfl rfl (fun L h => by simp [Aft, Region.binds] at h; simp [h]) (fun u h => h) ?_ ?_
          · intro L U wr hC hP hlk hcl haf A K hFm hK
            simp [Aft, Region.binds] at haf
            have g5 : U 89 = (.pointer (some ⟨bW, 0, none⟩)) := hP 5 89 (by simp [haf]) rfl
            have e89 : A.tmps[89]? = some (.pointer (some ⟨bW, 0, none⟩)) := hFm.is 5 89 rfl g5
            have m7 := (hC.cell (p := ⟨bW, 0, none⟩) HWB.out).trans HMW.out
            have HC : Hid _ := hC
            clear hC
            refine ⟨?_⟩
            go_simp
            exact hK _ _ rfl HC.out
          refine StepsE.runG 2 86 false rfl rfl rfl (fun L h => by simp [Aft, Region.binds] at h; simp [h]) (fun u h => h) ?_ ?_
          · intro L U wr hC hP hlk hcl haf A K hFm hK
            simp [Aft, Region.binds] at haf
            have e10 : A.tmps[10]? = some (.int .i64 (i : Nat)) := (hFm.old 10 (by decide)).trans (by kernel_rfl)
            have HC : Hid _ := hC
            clear hC
            refine ⟨?_⟩
            go_simp
            exact hK _ _ rfl HC.out
          refine StepsE.runG 2 86 false rfl rfl rfl (fun L h => by simp [Aft, Region.binds] at h; simp [h]) (fun u h => h) ?_ ?_
          · intro L U wr hC hP hlk hcl haf A K hFm hK
            simp [Aft, Region.binds] at haf
            have g6 : U 90 = (.slice (some ⟨bN, 0, none⟩) d.t.nn cN) := hP 6 90 (by simp [haf]) rfl
            have e90 : A.tmps[90]? = some (.slice (some ⟨bN, 0, none⟩) d.t.nn cN) := hFm.is 6 90 rfl g6
            have g7 : U 91 = (.int .i64 (i : Nat)) := hP 7 91 (by simp [haf]) rfl
            have e91 : A.tmps[91]? = some (.int .i64 (i : Nat)) := hFm.is 7 91 rfl g7
            have HC : Hid _ := hC
            clear hC
            refine ⟨?_⟩
            go_simp
            exact hK _ _ rfl HC.out
          refine StepsE.runG 2 86 false rfl rfl rfl (fun L h => by simp [Aft, Region.binds] at h; simp [h]) (fun u h => h) ?_ ?_
          · intro L U wr hC hP hlk hcl haf A K hFm hK
            simp [Aft, Region.binds] at haf
            have g8 : U 92 = (.pointer (some ⟨bN, i * 2, none⟩)) := hP 8 92 (by simp [haf]) rfl
            have e92 : A.tmps[92]? = some (.pointer (some ⟨bN, i * 2, none⟩)) := hFm.is 8 92 rfl g8
            have HC : Hid _ := hC
            clear hC
            refine ⟨?_⟩
            go_simp
            exact hK _ _ rfl HC.out
          refine StepsE.runG 2 86 false rfl rfl rfl (fun L h => by simp [Aft, Region.binds] at h; simp [h]) (fun u h => h) ?_ ?_
          · intro L U wr hC hP hlk hcl haf A K hFm hK
            simp [Aft, Region.binds] at haf
            have g9 : U 93 = (.pointer (some ⟨bN, i * 2, none⟩)) := hP 9 93 (by simp [haf]) rfl
            have e93 : A.tmps[93]? = some (.pointer (some ⟨bN, i * 2, none⟩)) := hFm.is 9 93 rfl g9
            have m7 := (hC.cell (p := ⟨bN, i * 2, none⟩) HNB.out).trans HMF.out
            have HC : Hid _ := hC
            clear hC
            refine ⟨?_⟩
            go_simp
            exact hK _ _ rfl HC.out
          refine StepsE.runG 2 86 false rfl rfl rfl (fun L h => by simp [Aft, Region.binds] at h; simp [h]) (fun u h => h) ?_ ?_
          · intro L U wr hC hP hlk hcl haf A K hFm hK
            simp [Aft, Region.binds] at haf
            have g4 : U 88 = (.string fk) := hP 4 88 (by simp [haf]) rfl
            have e88 : A.tmps[88]? = some (.string fk) := hFm.is 4 88 rfl g4
            have g10 : U 94 = (.string fk) := hP 10 94 (by simp [haf]) rfl
            have e94 : A.tmps[94]? = some (.string fk) := hFm.is 10 94 rfl g10
            have HC : Hid _ := hC
            clear hC
            refine ⟨?_⟩
            go_simp
            exact hK _ _ rfl HC.out
          refine StepsE.run rfl ?_ ?_
          · intro L U wr hC hP hlk hcl haf A K hFm hK
            simp [Aft, Region.binds] at haf
            have g2 : U 86 = (.bool false) := hP 2 86 (by simp [haf]) rfl
            have e86 : A.tmps[86]? = some (.bool false) := hFm.is 2 86 rfl g2
            have g11 : U 95 = (.bool false) := hP 11 95 (by simp [haf]) rfl
            have e95 : A.tmps[95]? = some (.bool false) := hFm.is 11 95 rfl g11
            have HC : Hid _ := hC
            clear hC
            refine ⟨?_⟩
            go_simp
            exact hK _ _ rfl HC.out
          refine StepsE.run rfl ?_ ?_
          · intro L U wr hC hP hlk hcl haf A K hFm hK
            simp [Aft, Region.binds] at haf
            have g12 : U 96 = (.bool false) := hP 12 96 (by simp [haf]) rfl
            have e96 : A.tmps[96]? = some (.bool false) := hFm.is 12 96 rfl g12
            have HC : Hid _ := hC
            clear hC
            refine ⟨?_⟩
            go_simp
            exact hK _ _ rfl HC.out
          refine StepsE.runG 13 97 false rfl rfl rfl (fun L h => by simp [Aft, Region.binds] at h; simp [h]) (fun u h => h) ?_ ?_
          · intro L U wr hC hP hlk hcl haf A K hFm hK
            simp [Aft, Region.binds] at haf
            have e11 : A.tmps[11]? = some (.pointer (some ⟨b11, 0, none⟩)) := (hFm.old 11 (by decide)).trans (by kernel_rfl)
            have m7 := (hC.cell (p := ⟨b11, 1, none⟩) HXB.out).trans HX1.out
            have HC : Hid _ := hC
            clear hC
            refine ⟨?_⟩
            go_simp
            exact hK _ _ rfl HC.out
          refine StepsE.runG 13 97 false rfl rfl rfl (fun L h => by simp [Aft, Region.binds] at h; simp [h]) (fun u h => h) ?_ ?_
          · intro L U wr hC hP hlk hcl haf A K hFm hK
            simp [Aft, Region.binds] at haf
            have g14 : U 98 = (.pointer (some ⟨b11, 1, none⟩)) := hP 14 98 (by simp [haf]) rfl
            have e98 : A.tmps[98]? = some (.pointer (some ⟨b11, 1, none⟩)) := hFm.is 14 98 rfl g14
            have m7 := (hC.cell (p := ⟨b11, 1, none⟩) HXB.out).trans HX1.out
            have HC : Hid _ := hC
            clear hC
            refine ⟨?_⟩
            go_simp
            exact hK _ _ rfl HC.out
          refine StepsE.runG 13 97 false rfl rfl rfl (fun L h => by simp [Aft, Region.binds] at h; simp [h]) (fun u h => h) ?_ ?_
          · intro L U wr hC hP hlk hcl haf A K hFm hK
            simp [Aft, Region.binds] at haf
            have e6 : A.tmps[6]? = some (.pointer (some ⟨bW, 0, none⟩)) := (hFm.old 6 (by decide)).trans (by kernel_rfl)
            have m7 := (hC.cell (p := ⟨bW, 0, none⟩) HWB.out).trans HMW.out
            have HC : Hid _ := hC
            clear hC
            refine ⟨?_⟩
            go_simp
            exact hK _ _ rfl HC.out
          refine StepsE.runG 13 97 false rfl rfl rfl (fun L h => by simp [Aft, Region.binds] at h; simp [h]) (fun u h => h) ?_ ?_
          · intro L U wr hC hP hlk hcl haf A K hFm hK
            simp [Aft, Region.binds] at haf
            have g16 : U 100 = (.pointer (some ⟨bW, 0, none⟩)) := hP 16 100 (by simp [haf]) rfl
            have e100 : A.tmps[100]? = some (.pointer (some ⟨bW, 0, none⟩)) := hFm.is 16 100 rfl g16
            have m7 := (hC.cell (p := ⟨bW, 0, none⟩) HWB.out).trans HMW.out
            have HC : Hid _ := hC
            clear hC
            refine ⟨?_⟩
            go_simp
            exact hK _ _ rfl HC.out
          refine StepsE.runG 13 97 false rfl rfl rfl (fun L h => by simp [Aft, Region.binds] at h; simp [h]) (fun u h => h) ?_ ?_
          · intro L U wr hC hP hlk hcl haf A K hFm hK
            simp [Aft, Region.binds] at haf
            have e10 : A.tmps[10]? = some (.int .i64 (i : Nat)) := (hFm.old 10 (by decide)).trans (by kernel_rfl)
            have HC : Hid _ := hC
            clear hC
            refine ⟨?_⟩
            go_simp
            exact hK _ _ rfl HC.out
          refine StepsE.runG 13 97 false rfl rfl rfl (fun L h => by simp [Aft, Region.binds] at h; simp [h]) (fun u h => h) ?_ ?_
          · intro L U wr hC hP hlk hcl haf A K hFm hK
            simp [Aft, Region.binds] at haf
            have g17 : U 101 = (.slice (some ⟨bN, 0, none⟩) d.t.nn cN) := hP 17 101 (by simp [haf]) rfl
            have e101 : A.tmps[101]? = some (.slice (some ⟨bN, 0, none⟩) d.t.nn cN) := hFm.is 17 101 rfl g17
            have g18 : U 102 = (.int .i64 (i : Nat)) := hP 18 102 (by simp [haf]) rfl
            have e102 : A.tmps[102]? = some (.int .i64 (i : Nat)) := hFm.is 18 102 rfl g18
            have HC : Hid _ := hC
            clear hC
            refine ⟨?_⟩
            go_simp
            exact hK _ _ rfl HC.out
          refine StepsE.runG 13 97 false rfl rfl rfl (fun L h => by simp [Aft, Region.binds] at h; simp [h]) (fun u h => h) ?_ ?_
          · intro L U wr hC hP hlk hcl haf A K hFm hK
            simp [Aft, Region.binds] at haf
            have g19 : U 103 = (.pointer (some ⟨bN, i * 2, none⟩)) := hP 19 103 (by simp [haf]) rfl
            have e103 : A.tmps[103]? = some (.pointer (some ⟨bN, i * 2, none⟩)) := hFm.is 19 103 rfl g19
            have HC : Hid _ := hC
            clear hC
            refine ⟨?_⟩
            go_simp
            exact hK _ _ rfl HC.out
          refine StepsE.runG 13 97 false rfl rfl rfl (fun L h => by simp [Aft, Region.binds] at h; simp [h]) (fun u h => h) ?_ ?_
          · intro L U wr hC hP hlk hcl haf A K hFm hK
            simp [Aft, Region.binds] at haf
            have g20 : U 104 = (.pointer (some ⟨bN, i * 2 + 1, none⟩)) := hP 20 104 (by simp [haf]) rfl
            have e104 : A.tmps[104]? = some (.pointer (some ⟨bN, i * 2 + 1, none⟩)) := hFm.is 20 104 rfl g20
            have m7 := (hC.cell (p := ⟨bN, i * 2 + 1, none⟩) HNB.out).trans HMA.out
            have HC : Hid _ := hC
            clear hC
            refine ⟨?_⟩
            go_simp
            exact hK _ _ rfl HC.out
          refine StepsE.runG 13 97 false rfl rfl rfl (fun L h => by simp [Aft, Region.binds] at h; simp [h]) (fun u h => h) ?_ ?_
          · intro L U wr hC hP hlk hcl haf A K hFm hK
            simp [Aft, Region.binds] at haf
            have g15 : U 99 = (.slice (some ⟨b9, 0, none⟩) lz lz) := hP 15 99 (by simp [haf]) rfl
            have e99 : A.tmps[99]? = some (.slice (some ⟨b9, 0, none⟩) lz lz) := hFm.is 15 99 rfl g15
            have g21 : U 105 = (.slice aZ lz cZ) := hP 21 105 (by simp [haf]) rfl
            have e105 : A.tmps[105]? = some (.slice aZ lz cZ) := hFm.is 21 105 rfl g21
            refine ⟨?_⟩
            have HB9 : Hid _ := hC
            clear hC
            go_simp
            refine (HAL.out wr HB9.out).mono ?_
            rintro e w1 ⟨rfl, hb9⟩
            go_simp
            exact hK _ _ (rfl) (HB9.out.trans (hb9.mono HB9.out.size))
          refine StepsE.runG 13 97 false rfl rfl rfl (fun L h => by simp [Aft, Region.binds] at h; simp [h]) (fun u h => h) ?_ ?_
          · intro L U wr hC hP hlk hcl haf A K hFm hK
            simp [Aft, Region.binds] at haf
            have g22 : U 106 = (.bool true) := hP 22 106 (by simp [haf]) rfl
            have e106 : A.tmps[106]? = some (.bool true) := hFm.is 22 106 rfl g22
            have HC : Hid _ := hC
            clear hC
            refine ⟨?_⟩
            go_simp
            exact hK _ _ rfl HC.out
          refine StepsE.run rfl ?_ ?_
          · intro L U wr hC hP hlk hcl haf A K hFm hK
            simp [Aft, Region.binds] at haf
            have g13 : U 97 = (.bool false) := hP 13 97 (by simp [haf]) rfl
            have e97 : A.tmps[97]? = some (.bool false) := hFm.is 13 97 rfl g13
            have g23 : U 107 = (.bool false) := hP 23 107 (by simp [haf]) rfl
            have e107 : A.tmps[107]? = some (.bool false) := hFm.is 23 107 rfl g23
            have HC : Hid _ := hC
            clear hC
            refine ⟨?_⟩
            go_simp
            exact hK _ _ rfl HC.out
          refine StepsE.run rfl ?_ ?_
          · intro L U wr hC hP hlk hcl haf A K hFm hK
            simp [Aft, Region.binds] at haf
            have g24 : U 108 = (.bool false) := hP 24 108 (by simp [haf]) rfl
            have e108 : A.tmps[108]? = some (.bool false) := hFm.is 24 108 rfl g24
            have HC : Hid _ := hC
            clear hC
            refine ⟨?_⟩
            go_simp
            exact hK _ _ rfl HC.out
          refine StepsE.runG 25 109 false rfl rfl rfl (fun L h => by simp [Aft, Region.binds] at h; simp [h]) (fun u h => h) ?_ ?_
          · intro L U wr hC hP hlk hcl haf A K hFm hK
            simp [Aft, Region.binds] at haf
            have e13 : A.tmps[13]? = some (.int .i64 (i : Nat)) := (hFm.old 13 (by decide)).trans (by kernel_rfl)
            have HC : Hid _ := hC
            clear hC
            refine ⟨?_⟩
            go_simp
            exact hK _ _ rfl HC.out
          refine StepsE.runG 25 109 false rfl rfl rfl (fun L h => by simp [Aft, Region.binds] at h; simp [h]) (fun u h => h) ?_ ?_
          · intro L U wr hC hP hlk hcl haf A K hFm hK
            simp [Aft, Region.binds] at haf
            have e10 : A.tmps[10]? = some (.int .i64 (i : Nat)) := (hFm.old 10 (by decide)).trans (by kernel_rfl)
            have HC : Hid _ := hC
            clear hC
            refine ⟨?_⟩
            go_simp
            exact hK _ _ rfl HC.out
          refine StepsE.runG 25 109 false rfl rfl rfl (fun L h => by simp [Aft, Region.binds] at h; simp [h]) (fun u h => h) ?_ ?_
          · intro L U wr hC hP hlk hcl haf A K hFm hK
            simp [Aft, Region.binds] at haf
            have g26 : U 110 = (.int .i64 (i : Nat)) := hP 26 110 (by simp [haf]) rfl
            have e110 : A.tmps[110]? = some (.int .i64 (i : Nat)) := hFm.is 26 110 rfl g26
            have g27 : U 111 = (.int .i64 (i : Nat)) := hP 27 111 (by simp [haf]) rfl
            have e111 : A.tmps[111]? = some (.int .i64 (i : Nat)) := hFm.is 27 111 rfl g27
            have HC : Hid _ := hC
            clear hC
            refine ⟨?_⟩
            go_simp
            exact hK _ _ rfl HC.out
          refine StepsE.run rfl ?_ ?_
          · intro L U wr hC hP hlk hcl haf A K hFm hK
            simp [Aft, Region.binds] at haf
            have g25 : U 109 = (.bool false) := hP 25 109 (by simp [haf]) rfl
            have e109 : A.tmps[109]? = some (.bool false) := hFm.is 25 109 rfl g25
            have g28 : U 112 = (.bool false) := hP 28 112 (by simp [haf]) rfl
            have e112 : A.tmps[112]? = some (.bool false) := hFm.is 28 112 rfl g28
            have HC : Hid _ := hC
            clear hC
            refine ⟨?_⟩
            go_simp
            exact hK _ _ rfl HC.out
          refine StepsE.run rfl ?_ ?_
          · intro L U wr hC hP hlk hcl haf A K hFm hK
            simp [Aft, Region.binds] at haf
            have g29 : U 113 = (.bool false) := hP 29 113 (by simp [haf]) rfl
            have e113 : A.tmps[113]? = some (.bool false) := hFm.is 29 113 rfl g29
            have HC : Hid _ := hC
            clear hC
            refine ⟨?_⟩
            go_simp
            exact hK _ _ rfl HC.out
          refine StepsE.runG 30 114 false rfl rfl rfl (fun L h => by simp [Aft, Region.binds] at h; simp [h]) (fun u h => h) ?_ ?_
          · intro L U wr hC hP hlk hcl haf A K hFm hK
            simp [Aft, Region.binds] at haf
            have e14 : A.tmps[14]? = some (.int .i64 0) := (hFm.old 14 (by decide)).trans (by kernel_rfl)
            have HC : Hid _ := hC
            clear hC
            refine ⟨?_⟩
            go_simp
            exact hK _ _ rfl HC.out
          refine StepsE.runG 30 114 false rfl rfl rfl (fun L h => by simp [Aft, Region.binds] at h; simp [h]) (fun u h => h) ?_ ?_
          · intro L U wr hC hP hlk hcl haf A K hFm hK
            simp [Aft, Region.binds] at haf
            have g31 : U 115 = (.int .i64 0) := hP 31 115 (by simp [haf]) rfl
            have e115 : A.tmps[115]? = some (.int .i64 0) := hFm.is 31 115 rfl g31
            have HC : Hid _ := hC
            clear hC
            refine ⟨?_⟩
            go_simp
            exact hK _ _ rfl HC.out
          refine StepsE.run rfl ?_ StepsE.nil
          · intro L U wr hC hP hlk hcl haf A K hFm hK
            simp [Aft, Region.binds] at haf
            have g30 : U 114 = (.bool false) := hP 30 114 (by simp [haf]) rfl
            have e114 : A.tmps[114]? = some (.bool false) := hFm.is 30 114 rfl g30
            have g32 : U 116 = (.bool false) := hP 32 116 (by simp [haf]) rfl
            have e116 : A.tmps[116]? = some (.bool false) := hFm.is 32 116 rfl g32
            have HC : Hid _ := hC
            clear hC
            refine ⟨?_⟩
            go_simp
            exact hK _ _ rfl HC.out
        intro L U6 V6 hall hC hP
        have HB6 : Hid (Below V.heap.size V V6) := hC
        have e117 : U6 117 = .bool false := hP 33 117 rfl
        simp only [setM_some, setM_none, setM_nil]
        rw [e117]
        have HS6 : Hid (∃ z : Nat → Int, Lw w1 V6 g d d (.slice (some ⟨bN, 0, none⟩) d.t.nn cN) (.slice aE d.f.ne cE) rg bW (.slice none 0 0) 0 (fun _ => 0) ∧ OL 1 3 V6 (.slice (some ⟨b9, 0, none⟩) lz lz) lz (fun k => [.int .i64 (z k)]) ∧ Blk 43 V6 b11 #[.string fk, .slice (some ⟨b9, 0, none⟩) lz lz]) := by
          obtain ⟨z, hz⟩ := HOZ.out
          exact ⟨z, HLV.out.below hC, hz.stay (fun b hb => hC.block b (hz.lt hb)), HK11.out.stay hC⟩
        clear hC hP hall e117 HAL HB5 HB6 HX0 HX1 HXB HMW HWB HMF HMA HNB HLV HK11 HOZ
        go_wp2
        go_loopw [15] (fun v15 wr => ∃ (j : Nat) (z : Nat → Int), v15 = .int .i64 (j : Nat) ∧ j ≤ lz ∧ Hid (Lw w1 wr g d d (.slice (some ⟨bN, 0, none⟩) d.t.nn cN) (.slice aE d.f.ne cE) rg bW (.slice none 0 0) 0 (fun _ => 0) ∧ OL 1 3 wr (.slice (some ⟨b9, 0, none⟩) lz lz) lz (fun k => [.int .i64 (z k)]) ∧ Blk 43 wr b11 #[.string fk, .slice (some ⟨b9, 0, none⟩) lz lz])) (fun v _ => lz - (intOf v).toNat)
        case atStart =>
          obtain ⟨z, hz⟩ := HS6.out
          exact ⟨0, z, rfl, Nat.zero_le _, hz⟩
        case round =>
          rename World => wm
          clear HS6
          obtain ⟨j, z, rfl, hj, HJ⟩ := hrel
          obtain ⟨x0, x1, -, -⟩ := HJ.out.2.2.two
          have hxl := HJ.out.2.2.lt
          by_cases hlj : j < lz
          · have hljI : (j : Int) < (lz : Int) := by omega
            have l0 := HJ.out.2.1.cell (i := j) hlj (j := 0) (by omega)
            have hfz := HJ.out.2.1.frozen j
            have hb9l : b9 < wm.heap.size := HJ.out.2.1.lt rfl
            simp only [Nat.add_zero, Nat.mul_one, List.getElem?_cons_zero] at l0
            have hne : b11 ≠ b9 := fun e => HJ.out.2.1.neB HJ.out.2.2 (by decide) (by rw [e]; rfl)
            have HN : Hid (Lw w1 (wm.setCell ⟨b9, j, none⟩ (.int .i64 (-7))) g d d (.slice (some ⟨bN, 0, none⟩) d.t.nn cN) (.slice aE d.f.ne cE) rg bW (.slice none 0 0) 0 (fun _ => 0) ∧ OL 1 3 (wm.setCell ⟨b9, j, none⟩ (.int .i64 (-7))) (.slice (some ⟨b9, 0, none⟩) lz lz) lz (fun k => [.int .i64 (upd z j (-7) k)]) ∧ Blk 43 (wm.setCell ⟨b9, j, none⟩ (.int .i64 (-7))) b11 #[.string fk, .slice (some ⟨b9, 0, none⟩) lz lz]) := by
              refine ⟨HJ.out.1.away ((Mv.refl (OneB b9) wm).set (a := ⟨b9, j, none⟩) (Or.inl rfl) _) (fun b hb => by have : b = b9 := hb; subst this; exact ⟨HF9.out.1, HF9.out.2.1, HF9.out.2.2.1, (fun e => by cases e), HF9.out.2.2.2⟩), ?_, (heap_setCell_other wm ⟨b9, j, none⟩ b11 _ hne).trans HJ.out.2.2⟩
              have := HJ.out.2.1.set (i := j) (j := 0) hlj (by omega) (.int .i64 (-7)) (f' := fun k => [.int .i64 (upd z j (-7) k)]) (fun _ _ => rfl) (by rw [upd_same]; rfl) (fun k _ hk => by rw [upd_other _ _ hk])
              simpa using this
            clear HJ hne
            go_wp2
            go_roundw
            case rel => exact ⟨j + 1, upd z j (-7), by go_num, by omega, HN.out⟩
            case measure => simp [intOf] <;> omega
          · have hljI : ¬ ((j : Int) < (lz : Int)) := by omega
            have HLJ : Hid (Lw w1 wm g d d (.slice (some ⟨bN, 0, none⟩) d.t.nn cN) (.slice aE d.f.ne cE) rg bW (.slice none 0 0) 0 (fun _ => 0)) := HJ.out.1
            clear HJ hj
            go_wp2_with fail
            refine (At_any g d i wm HLJ.out.gw hli (by omega) (by have := HD.out.2.2.2.1 i hli; omega)).mono ?_
            rintro e w13 ⟨b9, rfl, hol, hsz, hb3⟩
            have h3 := HLJ.out.below hb3
            obtain ⟨V, hV⟩ : ∃ V, V = w13.alloc (.cells #[.string (d.t.N i).1, .slice (some ⟨b9, 0, none⟩) (d.t.N i).2.length (d.t.N i).2.length] 43 (0, 0)) := ⟨_, rfl⟩
            have hbV : Below w13.heap.size w13 V := by rw [hV]; go_grown
            have HLV : Hid (Lw w1 V g d d (.slice (some ⟨bN, 0, none⟩) d.t.nn cN) (.slice aE d.f.ne cE) rg bW (.slice none 0 0) 0 (fun _ => 0)) := h3.below hbV
            have HOV : Hid (OL 1 3 V (.slice (some ⟨b9, 0, none⟩) (d.t.N i).2.length (d.t.N i).2.length) (d.t.N i).2.length (natC (d.t.N i).2)) := hol.stay (fun b hb => hbV.block b (hol.lt hb))
            have k11 : Blk 43 V w13.heap.size #[.string (d.t.N i).1, .slice (some ⟨b9, 0, none⟩) (d.t.N i).2.length (d.t.N i).2.length] := by rw [hV]; exact heap_alloc_new w13 _
            have HX1 : Hid (V.cell? ⟨w13.heap.size, 1, none⟩ = some (.slice (some ⟨b9, 0, none⟩) (d.t.N i).2.length (d.t.N i).2.length)) := k11.two.2.1
            have HXB : Hid (w13.heap.size < V.heap.size) := k11.lt
            have HMW : Hid (V.cell? ⟨bW, 0, none⟩ = some (.slice (some ⟨bN, 0, none⟩) d.t.nn cN)) := HLV.out.bw.two.1
            have HWB : Hid (bW < V.heap.size) := HLV.out.bw.lt
            have n1 := HLV.out.r.nodes.cell (i := i) hli (j := 1) (by omega)
            simp only [List.getElem?_cons_zero, List.getElem?_cons_succ] at n1
            rw [HRG.out] at n1
            have HMA : Hid (V.cell? ⟨bN, i * 2 + 1, none⟩ = some (.slice aZ (d.t.N i).2.length cZ)) := n1
            have HNB : Hid (bN < V.heap.size) := HLV.out.r.nodes.lt rfl
            have HAL : Hid (∀ wr, Below V.heap.size V wr → Calls Try.prog 16 #[.slice (some ⟨b9, 0, none⟩) (d.t.N i).2.length (d.t.N i).2.length, .slice aZ (d.t.N i).2.length cZ] wr fun e w' => e = .returned (.bool true) ∧ Below wr.heap.size wr w') := by
              intro wr hb
              have ha := (HLV.out.below hb).r.args i hli
              rw [HRG.out] at ha
              have h20 := HD.out.2.2.2.1 i hli
              refine (Alike_any _ _ _ _ wr (ai_of_ol (HOV.out.stay (fun b hb9 => hb.block b (HOV.out.lt hb9))) (by omega)) (ai_of_ol ha (by omega))).mono ?_
              rintro e w' ⟨rfl, hb9⟩
              exact ⟨by simp, hb9⟩
            clear x0 x1 hxl hol hsz hb3 h3 hbV k11 n1 HLJ HOV
            go_wp2
            rw [← hV]
            obtain ⟨b11, hb11⟩ : ∃ b11, b11 = w13.heap.size := ⟨_, rfl⟩
            rw [← hb11] at HX1 HXB ⊢
            clear hV hb11
            generalize (d.t.N i).1 = fk
            generalize (d.t.N i).2.length = lz at HX1 HMA HAL ⊢
            refine wp_region_E (by kernel_rfl) [some 135, some 136, some 137, some 138, some 139, some 140, some 141, some 142, some 143, some 144] [none, none, none, none, none, none, none, none, none, none, none, none, none, none, none, none, none, none, none, none, none, none, none, none, none, none, none, none, none, none, none, none, none, none, none, none, none, none, none, none, none, none, none, none, none, none, none, none, none, none, none, none, none, none, none, none, none, none, none, none, none, none, none, none, none, none, none, none, none, none, none, none, none, none, none, none, none, none, none, none, none, none, none, none, none, none, none, none, none, none, none, none, none, none, none, none, none, none, none, none, none, none, none, none, none, none, none, none, none, none, none, none, none, none, none, none, none, none, none, none, none, none, none, none, none, none, none, none, none, none, none, none, none, none, none, some 135, some 136, some 137, some 138, some 139, some 140, some 141, some 142, some 143, some 144] (fun U => by kernel_rfl) [fun u => u = (.pointer (some ⟨b11, 1, none⟩)), fun u => u = (.slice (some ⟨b9, 0, none⟩) lz lz), fun u => u = (.pointer (some ⟨bW, 0, none⟩)), fun u => u = (.slice (some ⟨bN, 0, none⟩) d.t.nn cN), fun u => u = (.int .i64 (i : Nat)), fun u => u = (.pointer (some ⟨bN, i * 2, none⟩)), fun u => u = (.pointer (some ⟨bN, i * 2 + 1, none⟩)), fun u => u = (.slice aZ lz cZ), fun u => u = (.bool true), fun u => u = (.bool false)] (fun L U wr => Below V.heap.size V wr) (by kernel_rfl) (by decide) (by kernel_rfl) (by kernel_rfl) ?_ ?_ ?_
            · exact fun U => (Below.refl _ _).drew
            · refine StepsE.run rfl ?_ ?_
              · intro L U wr hC hP hlk hcl haf A K hFm hK
                simp [Aft, Region.binds] at haf
                have e16 : A.tmps[16]? = some (.pointer (some ⟨b11, 0, none⟩)) := (hFm.old 16 (by decide)).trans (by kernel_rfl)
                have m7 := (hC.cell (p := ⟨b11, 1, none⟩) HXB.out).trans HX1.out
                have HC : Hid _ := hC
                clear hC
                refine ⟨?_⟩
                go_simp
                exact hK _ _ rfl HC.out
              refine StepsE.run rfl ?_ ?_
              · intro L U wr hC hP hlk hcl haf A K hFm hK
                simp [Aft, Region.binds] at haf
                have g0 : U 135 = (.pointer (some ⟨b11, 1, none⟩)) := hP 0 135 (by simp [haf]) rfl
                have e135 : A.tmps[135]? = some (.pointer (some ⟨b11, 1, none⟩)) := hFm.is 0 135 rfl g0
                have m7 := (hC.cell (p := ⟨b11, 1, none⟩) HXB.out).trans HX1.out
                have HC : Hid _ := hC
                clear hC
                refine ⟨?_⟩
                go_simp
                exact hK _ _ rfl HC.out
              refine StepsE.run rfl ?_ ?_
              · intro L U wr hC hP hlk hcl haf A K hFm hK
                simp [Aft, Region.binds] at haf
                have e6 : A.tmps[6]? = some (.pointer (some ⟨bW, 0, none⟩)) := (hFm.old 6 (by decide)).trans (by kernel_rfl)
                have m7 := (hC.cell (p := ⟨bW, 0, none⟩) HWB.out).trans HMW.out
                have HC : Hid _ := hC
                clear hC
                refine ⟨?_⟩
                go_simp
                exact hK _ _ rfl HC.out
              refine StepsE.run rfl ?_ ?_
              · intro L U wr hC hP hlk hcl haf A K hFm hK
                simp [Aft, Region.binds] at haf
                have g2 : U 137 = (.pointer (some ⟨bW, 0, none⟩)) := hP 2 137 (by simp [haf]) rfl
                have e137 : A.tmps[137]? = some (.pointer (some ⟨bW, 0, none⟩)) := hFm.is 2 137 rfl g2
                have m7 := (hC.cell (p := ⟨bW, 0, none⟩) HWB.out).trans HMW.out
                have HC : Hid _ := hC
                clear hC
                refine ⟨?_⟩
                go_simp
                exact hK _ _ rfl HC.out
              refine StepsE.run rfl ?_ ?_
              · intro L U wr hC hP hlk hcl haf A K hFm hK
                simp [Aft, Region.binds] at haf
                have e10 : A.tmps[10]? = some (.int .i64 (i : Nat)) := (hFm.old 10 (by decide)).trans (by kernel_rfl)
                have HC : Hid _ := hC
                clear hC
                refine ⟨?_⟩
                go_simp
                exact hK _ _ rfl HC.out
              refine StepsE.run rfl ?_ ?_
              · intro L U wr hC hP hlk hcl haf A K hFm hK
                simp [Aft, Region.binds] at haf
                have g3 : U 138 = (.slice (some ⟨bN, 0, none⟩) d.t.nn cN) := hP 3 138 (by simp [haf]) rfl
                have e138 : A.tmps[138]? = some (.slice (some ⟨bN, 0, none⟩) d.t.nn cN) := hFm.is 3 138 rfl g3
                have g4 : U 139 = (.int .i64 (i : Nat)) := hP 4 139 (by simp [haf]) rfl
                have e139 : A.tmps[139]? = some (.int .i64 (i : Nat)) := hFm.is 4 139 rfl g4
                have HC : Hid _ := hC
                clear hC
                refine ⟨?_⟩
                go_simp
                exact hK _ _ rfl HC.out
              refine StepsE.run rfl ?_ ?_
              · intro L U wr hC hP hlk hcl haf A K hFm hK
                simp [Aft, Region.binds] at haf
                have g5 : U 140 = (.pointer (some ⟨bN, i * 2, none⟩)) := hP 5 140 (by simp [haf]) rfl
                have e140 : A.tmps[140]? = some (.pointer (some ⟨bN, i * 2, none⟩)) := hFm.is 5 140 rfl g5
                have HC : Hid _ := hC
                clear hC
                refine ⟨?_⟩
                go_simp
                exact hK _ _ rfl HC.out
              refine StepsE.run rfl ?_ ?_
              · intro L U wr hC hP hlk hcl haf A K hFm hK
                simp [Aft, Region.binds] at haf
                have g6 : U 141 = (.pointer (some ⟨bN, i * 2 + 1, none⟩)) := hP 6 141 (by simp [haf]) rfl
                have e141 : A.tmps[141]? = some (.pointer (some ⟨bN, i * 2 + 1, none⟩)) := hFm.is 6 141 rfl g6
                have m7 := (hC.cell (p := ⟨bN, i * 2 + 1, none⟩) HNB.out).trans HMA.out
                have HC : Hid _ := hC
                clear hC
                refine ⟨?_⟩
                go_simp
                exact hK _ _ rfl HC.out
              refine StepsE.run rfl ?_ ?_
              · intro L U wr hC hP hlk hcl haf A K hFm hK
                simp [Aft, Region.binds] at haf
                have g1 : U 136 = (.slice (some ⟨b9, 0, none⟩) lz lz) := hP 1 136 (by simp [haf]) rfl
                have e136 : A.tmps[136]? = some (.slice (some ⟨b9, 0, none⟩) lz lz) := hFm.is 1 136 rfl g1
                have g7 : U 142 = (.slice aZ lz cZ) := hP 7 142 (by simp [haf]) rfl
                have e142 : A.tmps[142]? = some (.slice aZ lz cZ) := hFm.is 7 142 rfl g7
                refine ⟨?_⟩
                have HB9 : Hid _ := hC
                clear hC
                go_simp
                refine (HAL.out wr HB9.out).mono ?_
                rintro e w1 ⟨rfl, hb9⟩
                go_simp
                exact hK _ _ (rfl) (HB9.out.trans (hb9.mono HB9.out.size))
              refine StepsE.run rfl ?_ StepsE.nil
              · intro L U wr hC hP hlk hcl haf A K hFm hK
                simp [Aft, Region.binds] at haf
                have g8 : U 143 = (.bool true) := hP 8 143 (by simp [haf]) rfl
                have e143 : A.tmps[143]? = some (.bool true) := hFm.is 8 143 rfl g8
                have HC : Hid _ := hC
                clear hC
                refine ⟨?_⟩
                go_simp
                exact hK _ _ rfl HC.out
            intro L U7 V7 hall hC hP
            have H7 : Hid (Lw w1 V7 g d d (.slice (some ⟨bN, 0, none⟩) d.t.nn cN) (.slice aE d.f.ne cE) rg bW (.slice none 0 0) 0 (fun _ => 0)) := HLV.out.below hC
            have e144 : U7 144 = .bool false := hP 9 144 rfl
            simp only [setM_some, setM_none, setM_nil]
            rw [e144]
            clear hC hP hall e144 HAL HX1 HXB HMW HWB HMA HNB HLV
            go_wp2
            go_roundw
            case rel => exact ⟨i + 1, by go_num, by omega, H7.out⟩
            case measure => simp [intOf] <;> omega
      · have hliI : ¬ ((i : Int) < (d.t.nn : Int)) := by omega
        have HMW : Hid (wl.cell? ⟨bW, 0, none⟩ = some (.slice aN d.t.nn cN)) := c0
        have HWB : Hid (bW < wl.heap.size) := hlb
        have HLN : Hid (∀ wr, Below wl.heap.size wl wr → Calls Try.prog 17 #[.pointer (some ⟨g, 0, none⟩)] wr fun e w' => e = .returned (.int .i64 (d.t.nn : Nat)) ∧ Below wr.heap.size wr w') := fun wr hb => Len_any g d wr (H5.out.gw.below hb) (by omega)
        have HBE : Hid (Below w.heap.size w wl) := HB1.out.trans (H5.out.bel.mono HB1.out.size)
        go_wp2
        clear c0 c1 hlb H5
        refine wp_region_E (by kernel_rfl) [some 145, some 146, some 147, some 148, some 149, some 150, some 4] [none, none, none, none, some 4, none, none, none, none, none, none, none, none, none, none, none, none, none, none, none, none, none, none, none, none, none, none, none, none, none, none, none, none, none, none, none, none, none, none, none, none, none, none, none, none, none, none, none, none, none, none, none, none, none, none, none, none, none, none, none, none, none, none, none, none, none, none, none, none, none, none, none, none, none, none, none, none, none, none, none, none, none, none, none, none, none, none, none, none, none, none, none, none, none, none, none, none, none, none, none, none, none, none, none, none, none, none, none, none, none, none, none, none, none, none, none, none, none, none, none, none, none, none, none, none, none, none, none, none, none, none, none, none, none, none, none, none, none, none, none, none, none, none, none, none, some 145, some 146, some 147, some 148, some 149, some 150] (fun U => by kernel_rfl) [fun u => u = (.pointer (some ⟨g, 0, none⟩)), fun u => u = (.int .i64 (d.t.nn : Nat)), fun u => u = (.pointer (some ⟨bW, 0, none⟩)), fun u => u = (.slice aN d.t.nn cN), fun u => u = (.int .i64 (d.t.nn : Nat)), fun u => u = (.bool true), fun u => u = (.bool true)] (fun L U wr => Below wl.heap.size wl wr) (by kernel_rfl) (by decide) (by kernel_rfl) (by kernel_rfl) ?_ ?_ ?_
        · exact fun U => (Below.refl _ _).drew
        · refine StepsE.run rfl ?_ ?_
          · intro L U wr hC hP hlk hcl haf A K hFm hK
            simp [Aft, Region.binds] at haf
            have e5 : A.tmps[5]? = some (.pointer (some ⟨g, 0, none⟩)) := (hFm.old 5 (by decide)).trans (by kernel_rfl)
            have HC : Hid _ := hC
            clear hC
            refine ⟨?_⟩
            go_simp
            exact hK _ _ rfl HC.out
          refine StepsE.run rfl ?_ ?_
          · intro L U wr hC hP hlk hcl haf A K hFm hK
            simp [Aft, Region.binds] at haf
            have g0 : U 145 = (.pointer (some ⟨g, 0, none⟩)) := hP 0 145 (by simp [haf]) rfl
            have e145 : A.tmps[145]? = some (.pointer (some ⟨g, 0, none⟩)) := hFm.is 0 145 rfl g0
            refine ⟨?_⟩
            have HB9 : Hid _ := hC
            clear hC
            go_simp
            refine (HLN.out wr HB9.out).mono ?_
            rintro e w1 ⟨rfl, hb9⟩
            go_simp
            exact hK _ _ (rfl) (HB9.out.trans (hb9.mono HB9.out.size))
          refine StepsE.run rfl ?_ ?_
          · intro L U wr hC hP hlk hcl haf A K hFm hK
            simp [Aft, Region.binds] at haf
            have e6 : A.tmps[6]? = some (.pointer (some ⟨bW, 0, none⟩)) := (hFm.old 6 (by decide)).trans (by kernel_rfl)
            have m7 := (hC.cell (p := ⟨bW, 0, none⟩) HWB.out).trans HMW.out
            have HC : Hid _ := hC
            clear hC
            refine ⟨?_⟩
            go_simp
            exact hK _ _ rfl HC.out
          refine StepsE.run rfl ?_ ?_
          · intro L U wr hC hP hlk hcl haf A K hFm hK
            simp [Aft, Region.binds] at haf
            have g2 : U 147 = (.pointer (some ⟨bW, 0, none⟩)) := hP 2 147 (by simp [haf]) rfl
            have e147 : A.tmps[147]? = some (.pointer (some ⟨bW, 0, none⟩)) := hFm.is 2 147 rfl g2
            have m7 := (hC.cell (p := ⟨bW, 0, none⟩) HWB.out).trans HMW.out
            have HC : Hid _ := hC
            clear hC
            refine ⟨?_⟩
            go_simp
            exact hK _ _ rfl HC.out
          refine StepsE.run rfl ?_ ?_
          · intro L U wr hC hP hlk hcl haf A K hFm hK
            simp [Aft, Region.binds] at haf
            have g3 : U 148 = (.slice aN d.t.nn cN) := hP 3 148 (by simp [haf]) rfl
            have e148 : A.tmps[148]? = some (.slice aN d.t.nn cN) := hFm.is 3 148 rfl g3
            have HC : Hid _ := hC
            clear hC
            refine ⟨?_⟩
            go_simp
            exact hK _ _ rfl HC.out
          refine StepsE.run rfl ?_ ?_
          · intro L U wr hC hP hlk hcl haf A K hFm hK
            simp [Aft, Region.binds] at haf
            have g1 : U 146 = (.int .i64 (d.t.nn : Nat)) := hP 1 146 (by simp [haf]) rfl
            have e146 : A.tmps[146]? = some (.int .i64 (d.t.nn : Nat)) := hFm.is 1 146 rfl g1
            have g4 : U 149 = (.int .i64 (d.t.nn : Nat)) := hP 4 149 (by simp [haf]) rfl
            have e149 : A.tmps[149]? = some (.int .i64 (d.t.nn : Nat)) := hFm.is 4 149 rfl g4
            have HC : Hid _ := hC
            clear hC
            refine ⟨?_⟩
            go_simp
            exact hK _ _ rfl HC.out
          refine StepsE.run rfl ?_ StepsE.nil
          · intro L U wr hC hP hlk hcl haf A K hFm hK
            simp [Aft, Region.binds] at haf
            have g5 : U 150 = (.bool true) := hP 5 150 (by simp [haf]) rfl
            have e150 : A.tmps[150]? = some (.bool true) := hFm.is 5 150 rfl g5
            have HC : Hid _ := hC
            clear hC
            refine ⟨?_⟩
            go_simp
            exact hK _ _ rfl HC.out
        intro L U8 V8 hall hC hP
        have HB8 : Hid (Below wl.heap.size wl V8) := hC
        have e4 : U8 4 = .bool true := hP 6 4 rfl
        simp only [setM_some, setM_none, setM_nil]
        rw [e4]
        clear hC hP hall e4 HLN HMW HWB
        go_wp2
        go_ret
        exact ⟨rfl, HBE.out.trans (HB8.out.mono HBE.out.size)⟩
end Euf
end Go.Proofs.Ytlonnhnfmcndfac
