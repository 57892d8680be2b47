/- The walk of EufExplains; no statement of the seat is proved here. -/
import Derived.Test.YtlonnhnfmcndfacEufOnJExplains
import Derived.Test.YtlonnhnfmcndfacEufSfJExplains
import Derived.Test.YtlonnhnfmcndfacEufXpJExplains
namespace Go.Proofs.Ytlonnhnfmcndfac
open Go.RowKit
set_option linter.unusedVariables false
namespace Euf
/-- The graph with some of its equations. -/
def dO (d : Gd) (n : Nat) (lf : Nat → Nat) : Gd := { d with f := { d.f with ne := n, E := fun i => d.f.E (lf i) } }
theorem dO_dg {d : Gd} (h : DG d) {n : Nat} {lf : Nat → Nat} (hl : ∀ i, i < n → lf i < d.f.ne) : DG (dO d n lf) := ⟨fun k hk => h.eqs (lf k) (hl k hk), h.inj, h.args⟩
/-- What is told, as numbers. -/
structure ToldN (d : Gd) (a b n : Nat) (lf : Nat → Nat) : Prop where
  lt : ∀ i, i < n → lf i < d.f.ne
  rise : ∀ i, i + 1 < n → lf i < lf (i + 1)
  len : n ≤ d.f.ne
  follow : Cong d.t.nn d.t.N (EqOf (dO d n lf).f) a b
theorem rise_ge {lf : Nat → Nat} {n : Nat} (h : ∀ i, i + 1 < n → lf i < lf (i + 1)) : ∀ i, i < n → i ≤ lf i
  | 0, _ => Nat.zero_le _
  | i + 1, hi => by have := rise_ge h i (by omega); have := h i hi; omega
theorem Told.nat {d : Gd} {a b : Nat} {l : List Int} (h : Told d a b l) : ∃ lf : Nat → Nat, ToldN d a b l.length lf ∧ ∀ i, i < l.length → inC l i = [.int .i64 (lf i : Nat)] := by
  have hz : ∀ i, i < l.length → ∃ k : Nat, k < d.f.ne ∧ l.getD i 0 = (k : Int) := fun i hi => h.lt _ (by rw [List.getD_eq_getElem?_getD, List.getElem?_eq_getElem hi]; exact List.getElem_mem hi)
  have hf : ∀ i, i < l.length → l.getD i 0 = (((l.getD i 0).toNat : Nat) : Int) ∧ (l.getD i 0).toNat < d.f.ne := fun i hi => by
    obtain ⟨k, h1, h2⟩ := hz i hi
    rw [h2]; simp [h1]
  have hr : ∀ i, i + 1 < l.length → (l.getD i 0).toNat < (l.getD (i + 1) 0).toNat := fun i hi => by
    have h1 := (hf i (by omega)).1
    have h2 := (hf (i + 1) hi).1
    have h3 := List.pairwise_iff_getElem.1 h.rise i (i + 1) (by omega) hi (by omega)
    have e1 : l.getD i 0 = l[i] := by rw [List.getD_eq_getElem?_getD, List.getElem?_eq_getElem (by omega)]; rfl
    have e2 : l.getD (i + 1) 0 = l[i + 1] := by rw [List.getD_eq_getElem?_getD, List.getElem?_eq_getElem hi]; rfl
    rw [← e1, ← e2] at h3
    omega
  refine ⟨fun i => (l.getD i 0).toNat, ⟨fun i hi => (hf i hi).2, hr, ?_, ?_⟩, fun i hi => by unfold inC; rw [← (hf i hi).1]⟩
  · by_cases h0 : l.length = 0
    · omega
    · have h1 := rise_ge hr (l.length - 1) (by omega)
      have h2 := (hf (l.length - 1) (by omega)).2
      omega
  · refine h.follow.more (Nat.le_refl _) (fun _ _ => rfl) ?_
    rintro x y ⟨k, k1, k2, k3, k4⟩
    obtain ⟨i, hi, e⟩ := List.mem_iff_getElem.1 k2
    have e1 : (l.getD i 0).toNat = k := by rw [List.getD_eq_getElem?_getD, List.getElem?_eq_getElem hi]; show (l[i]).toNat = k; rw [e]; simp
    exact ⟨i, hi, by show (d.f.E (l.getD i 0).toNat).1 = x; rw [e1]; exact k3, by show (d.f.E (l.getD i 0).toNat).2.1 = y; rw [e1]; exact k4⟩

set_option maxRecDepth 20000 in
set_option maxHeartbeats 16000000 in
theorem eufExplains_by (hplay : PlayLaw) (aS : Option Addr) (cS : Nat) (ops : List OpS) (a b : Int) (w : World) (hS : Scr w aS ops) (hl : ops.length ≤ maxLen) :
    Calls Try.prog 5 #[.slice aS ops.length cS, .int .i64 a, .int .i64 b] w fun e w' => e = .returned (.bool true) ∧ Below w.heap.size w w' := by
  have HPL : Hid PlayLaw := hplay
  have HS : Hid (Scr w aS ops ∧ ops.length ≤ maxLen) := ⟨hS, hl⟩
  clear hplay hS hl
  go_enter Try.func5, Try.ntmps5
  go_wp2_with fail
  refine (awake_by HPL.out w).mono ?_
  rintro e w1 ⟨rfl, hb1⟩
  go_wp2_with fail
  refine (HPL.out aS cS ops w1 (HS.out.1.below hb1) HS.out.2).mono ?_
  rintro e w2 ⟨g, d, aN, aE, cN, cE, rg, rfl, hP, hA⟩
  have HB1 : Hid (Below w.heap.size w w1) := hb1
  have HD : Hid (d.t.nn ≤ 60 ∧ d.f.ne ≤ 60 ∧ GSem d ∧ (∀ i, i < d.t.nn → (d.t.N i).2.length ≤ 20)) := ⟨hP.nn, hP.ne, hP.sem, hP.al⟩
  have hlw := hP.lw
  have hd6 : d.t.nn ≤ 60 := hP.nn
  have he6 : d.f.ne ≤ 60 := hP.ne
  clear hb1 HPL hA hP HS
  obtain ⟨W2, hW2⟩ : ∃ W2, W2 = w2.alloc (.cells #[.slice aN d.t.nn cN, .slice aE d.f.ne cE] 28 (0, 0)) := ⟨_, rfl⟩
  obtain ⟨bW, hbW⟩ : ∃ bW, bW = w2.heap.size := ⟨_, rfl⟩
  rw [← hW2, ← hbW] at hlw
  have HLW : Hid (Lw w1 W2 g d d (.slice aN d.t.nn cN) (.slice aE d.f.ne cE) rg bW (.slice none 0 0) 0 (fun _ => 0)) := hlw
  clear hlw
  go_wp2_with fail
  rw [← hW2, ← hbW]
  clear hW2 hbW
  cases hok : (okIn d.t.nn a && okIn d.t.nn b) with
  | false =>
    refine (Explain_bad g d a b W2 HLW.out.gw hok (by omega)).mono ?_
    rintro e w7 ⟨rfl, hb7⟩
    have H7 : Hid (Lw w1 w7 g d d (.slice aN d.t.nn cN) (.slice aE d.f.ne cE) rg bW (.slice none 0 0) 0 (fun _ => 0)) := HLW.out.below hb7
    obtain ⟨c0, c1, -, -⟩ := H7.out.bw.two
    have hlb := H7.out.bw.lt
    clear hb7 HLW
    cases hoa : okIn d.t.nn a with
    | false =>
      have HOA : Hid (okIn d.t.nn a = false) := hoa
      clear hok hoa
      go_wp2_with fail
      refine (Is_any aN aE d.t.nn cN d.f.ne cE a w7 (by omega)).mono ?_
      rintro e w9 ⟨rfl, hb9⟩
      rw [HOA.out]
      have HBE : Hid (Below w.heap.size w w9) := HB1.out.trans ((H7.out.below hb9).bel.mono HB1.out.size)
      clear hb9 c0 c1 hlb
      go_wp2
      go_ret
      exact ⟨rfl, HBE.out⟩
    | true =>
      have HOA : Hid (okIn d.t.nn a = true) := hoa
      have HOB : Hid (okIn d.t.nn b = false) := by show _ = _; rw [hoa] at hok; simpa using hok
      clear hok hoa
      go_wp2_with fail
      refine (Is_any aN aE d.t.nn cN d.f.ne cE a w7 (by omega)).mono ?_
      rintro e w9 ⟨rfl, hb9⟩
      rw [HOA.out]
      have H9 : Hid (Lw w1 w9 g d d (.slice aN d.t.nn cN) (.slice aE d.f.ne cE) rg bW (.slice none 0 0) 0 (fun _ => 0)) := H7.out.below hb9
      clear hb9 c0 c1 hlb H7
      obtain ⟨c0, c1, -, -⟩ := H9.out.bw.two
      have hlb := H9.out.bw.lt
      go_wp2_with fail
      refine (Is_any aN aE d.t.nn cN d.f.ne cE b w9 (by omega)).mono ?_
      rintro e w10 ⟨rfl, hb10⟩
      rw [HOB.out]
      have HBE : Hid (Below w.heap.size w w10) := HB1.out.trans ((H9.out.below hb10).bel.mono HB1.out.size)
      clear hb10 c0 c1 hlb
      go_wp2
      go_ret
      exact ⟨rfl, HBE.out⟩
  | true =>
    obtain ⟨hoa, hob⟩ := Bool.and_eq_true_iff.1 hok
    obtain ⟨na, rfl⟩ : ∃ na : Nat, a = na := ⟨a.toNat, by simp [okIn] at hoa; omega⟩
    obtain ⟨nb, rfl⟩ : ∃ nb : Nat, b = nb := ⟨b.toNat, by simp [okIn] at hob; omega⟩
    have hna : na < d.t.nn := by simp [okIn] at hoa; omega
    have hnb : nb < d.t.nn := by simp [okIn] at hob; omega
    have hnaI : (na : Int) < (d.t.nn : Int) := by omega
    have hnbI : (nb : Int) < (d.t.nn : Int) := by omega
    have HOA : Hid (okIn d.t.nn (na : Int) = true) := hoa
    have HOB : Hid (okIn d.t.nn (nb : Int) = true) := hob
    clear hok hoa hob
    refine (Explain_any g d na nb W2 HLW.out.gw HD.out.2.2.1 hna hnb (by omega) (by omega)).mono ?_
    rintro e w7 ⟨y, s, hr, hns, hG, hM, hF, hend⟩
    have h7 := HLW.out.dR hr hG hM hF
    have HR7 : Hid (RG w7 (.slice aN d.t.nn cN) (.slice aE d.f.ne cE) rg d) := h7.r
    have HB7 : Hid (Below w.heap.size w w7) := HB1.out.trans (h7.bel.mono HB1.out.size)
    obtain ⟨c0, c1, -, -⟩ := h7.bw.two
    have hlb := h7.bw.lt
    have HSM : Hid ((s.S (d.f.W na)).cls = (s.S (d.f.W nb)).cls ↔ Cong d.t.nn d.t.N (EqOf d.f) na nb) := HD.out.2.2.1.same (y := y) hr hns hna hnb
    clear hr hns hG hM hF HLW HB1 h7
    rcases hend with ⟨hne, rfl⟩ | ⟨heq, v, l, rfl, hT, hv, -⟩
    · have HNC : Hid (¬ Cong d.t.nn d.t.N (EqOf d.f) na nb) := fun h => hne (HSM.out.2 h)
      clear HSM hne
      go_wp2_with fail
      refine (Is_any aN aE d.t.nn cN d.f.ne cE na w7 (by omega)).mono ?_
      rintro e w8 ⟨rfl, hb8⟩
      rw [HOA.out]
      have k0 := (hb8.cell (p := ⟨bW, 0, none⟩) hlb).trans c0
      have k1 := (hb8.cell (p := ⟨bW, 1, none⟩) hlb).trans c1
      have hl8 : bW < w8.heap.size := Nat.lt_of_lt_of_le hlb hb8.size
      have HB8 : Hid (Below w7.heap.size w7 w8) := hb8
      clear hb8 c0 c1 hlb
      go_wp2_with fail
      refine (Is_any aN aE d.t.nn cN d.f.ne cE nb w8 (by omega)).mono ?_
      rintro e w9 ⟨rfl, hb9⟩
      rw [HOB.out]
      have c0 := (hb9.cell (p := ⟨bW, 0, none⟩) hl8).trans k0
      have c1 := (hb9.cell (p := ⟨bW, 1, none⟩) hl8).trans k1
      have hlb : bW < w9.heap.size := Nat.lt_of_lt_of_le hl8 hb9.size
      have HB9 : Hid (Below w7.heap.size w7 w9) := HB8.out.trans (hb9.mono HB8.out.size)
      clear hb9 k0 k1 hl8 HB8
      go_wp2_with fail
      refine (Closed_any d aN aE cN cE rg w9 (HR7.out.below HB9.out) HD.out.2.2.1 HD.out.1 HD.out.2.1 HD.out.2.2.2).mono ?_
      rintro e w10 ⟨bC, c, rfl, hci, hc1, hb10, hlst⟩
      have hcc : ¬ (c na = c nb) := fun e => HNC.out (((hlst na hna).same (hlst nb hnb)).1 e)
      have hccI : ¬ (((c na : Nat) : Int) = ((c nb : Nat) : Int)) := by omega
      have l0 := hci.cell (i := na) hna (j := 0) (by omega)
      have l1 := hci.cell (i := nb) hnb (j := 0) (by omega)
      simp only [Nat.add_zero, Nat.mul_one, List.getElem?_cons_zero] at l0 l1
      have hbC : bC < w10.heap.size := hci.lt rfl
      have HBE : Hid (Below w.heap.size w w10) := (HB7.out.trans (HB9.out.mono HB7.out.size)).trans (hb10.mono (Nat.le_trans HB7.out.size HB9.out.size))
      clear hci hc1 hb10 hlst c0 c1 hlb HNC hcc
      go_wp2
      go_quiet (fail)
      go_wp2
      go_ret
      exact ⟨rfl, HBE.out.trans ⟨rfl, rfl, rfl, Nat.le_refl _, fun _ _ => rfl⟩⟩
    · have HCG : Hid (Cong d.t.nn d.t.N (EqOf d.f) na nb) := HSM.out.1 heq
      obtain ⟨lf, hTN, hlf⟩ := hT.nat
      have HT : Hid (ToldN d na nb l.length lf) := hTN
      have HV : Hid (OL 1 3 w7 v l.length (fun i => [.int .i64 (lf i : Nat)])) := hv.congr fun i hi => (hlf i hi).symm
      obtain ⟨aL, cL, hvs, -, -, -, -⟩ := hv.shape
      subst hvs
      have hln : l.length ≤ 60 := by have := hTN.len; omega
      generalize l.length = n at HT HV hln ⊢
      clear hTN hlf hT hv heq HSM
      go_wp2_with fail
      refine (Is_any aN aE d.t.nn cN d.f.ne cE na w7 (by omega)).mono ?_
      rintro e w8 ⟨rfl, hb8⟩
      rw [HOA.out]
      have k0 := (hb8.cell (p := ⟨bW, 0, none⟩) hlb).trans c0
      have k1 := (hb8.cell (p := ⟨bW, 1, none⟩) hlb).trans c1
      have hl8 : bW < w8.heap.size := Nat.lt_of_lt_of_le hlb hb8.size
      have HB8 : Hid (Below w7.heap.size w7 w8) := hb8
      clear hb8 c0 c1 hlb
      go_wp2_with fail
      refine (Is_any aN aE d.t.nn cN d.f.ne cE nb w8 (by omega)).mono ?_
      rintro e w9 ⟨rfl, hb9⟩
      rw [HOB.out]
      have c0 := (hb9.cell (p := ⟨bW, 0, none⟩) hl8).trans k0
      have c1 := (hb9.cell (p := ⟨bW, 1, none⟩) hl8).trans k1
      have hlb : bW < w9.heap.size := Nat.lt_of_lt_of_le hl8 hb9.size
      have HB9 : Hid (Below w7.heap.size w7 w9) := HB8.out.trans (hb9.mono HB8.out.size)
      clear hb9 k0 k1 hl8 HB8
      go_wp2_with fail
      refine (Closed_any d aN aE cN cE rg w9 (HR7.out.below HB9.out) HD.out.2.2.1 HD.out.1 HD.out.2.1 HD.out.2.2.2).mono ?_
      rintro e w10 ⟨bC, c, rfl, hci, hc1, hb10, hlst⟩
      have hcc : c na = c nb := ((hlst na hna).same (hlst nb hnb)).2 HCG.out
      have l0 := hci.cell (i := na) hna (j := 0) (by omega)
      have l1 := hci.cell (i := nb) hnb (j := 0) (by omega)
      simp only [Nat.add_zero, Nat.mul_one, List.getElem?_cons_zero] at l0 l1
      rw [← hcc] at l1
      have hbC : bC < w10.heap.size := hci.lt rfl
      replace c0 := (hb10.cell (p := ⟨bW, 0, none⟩) hlb).trans c0
      replace c1 := (hb10.cell (p := ⟨bW, 1, none⟩) hlb).trans c1
      replace hlb : bW < w10.heap.size := Nat.lt_of_lt_of_le hlb hb10.size
      have HB10 : Hid (Below w7.heap.size w7 w10) := HB9.out.trans (hb10.mono HB9.out.size)
      clear hci hc1 hb10 hlst hcc HCG HB9
      go_wp2
      go_quiet (fail)
      go_wp2
      clear l0 l1 hbC
      go_loopw [13] (fun v13 wr => ∃ (i : Nat), v13 = .int .i64 (i : Nat) ∧ i ≤ n ∧ Hid (Below w10.heap.size w10 wr)) (fun v _ => n - (intOf v).toNat)
      case atStart => exact ⟨0, rfl, Nat.zero_le _, ⟨rfl, rfl, rfl, Nat.le_refl _, fun _ _ => rfl⟩⟩
      case round =>
        rename World => wl
        obtain ⟨i, rfl, hi, HBl⟩ := hrel
        have hbl := HBl.out
        replace c0 := (hbl.cell (p := ⟨bW, 0, none⟩) hlb).trans c0
        replace c1 := (hbl.cell (p := ⟨bW, 1, none⟩) hlb).trans c1
        replace hlb : bW < wl.heap.size := Nat.lt_of_lt_of_le hlb hbl.size
        have HB17 : Hid (Below w7.heap.size w7 wl) := HB10.out.trans (hbl.mono HB10.out.size)
        clear hbl
        by_cases hlt : i < n
        · have hltI : (i : Int) < (n : Int) := by omega
          obtain ⟨bL, cL', hvL, -, -⟩ := HV.out.open i hlt
          injection hvL with hvL e2 e3
          clear e2
          subst hvL e3
          have hbL : bL < w7.heap.size := HV.out.lt rfl
          have l0 := HV.out.cell (i := i) hlt (j := 0) (by omega)
          simp only [Nat.add_zero, Nat.mul_one, List.getElem?_cons_zero] at l0
          replace l0 := (HB17.out.cell (p := ⟨bL, i, none⟩) hbL).trans l0
          have hx := HT.out.lt i hlt
          have HXF : Hid (¬ (((lf i : Nat) : Int) < 0) ∧ ¬ ((d.f.ne : Int) ≤ ((lf i : Nat) : Int)) ∧ ¬ (d.f.ne ≤ lf i)) := ⟨by omega, by omega, by omega⟩
          have HLB : Hid (bL < wl.heap.size) := Nat.lt_of_lt_of_le hbL HB17.out.size
          have HWB : Hid (bW < wl.heap.size) := hlb
          have HMW : Hid (wl.cell? ⟨bW, 1, none⟩ = some (.slice aE d.f.ne cE)) := c1
          have HI6 : Hid (i < n ∧ n ≤ 60) := ⟨hlt, hln⟩
          by_cases h0 : 0 < i
          · have l1 := HV.out.cell (i := i - 1) (by omega) (j := 0) (by omega)
            simp only [Nat.add_zero, Nat.mul_one, List.getElem?_cons_zero] at l1
            have HMJ : Hid _ := (HB17.out.cell (p := ⟨bL, i - 1, none⟩) hbL).trans l1
            have hr := HT.out.rise (i - 1) (by omega)
            rw [show i - 1 + 1 = i from by omega] at hr
            have HRI : Hid (¬ (((lf i : Nat) : Int) ≤ ((lf (i - 1) : Nat) : Int)) ∧ ¬ (lf i ≤ lf (i - 1))) := ⟨by omega, by omega⟩
            have H0I : Hid ((0 : Int) < (i : Int)) := by show _ < _; omega
            clear l1 hr hx hbL
            generalize lf (i - 1) = xj at HMJ HRI
            generalize lf i = xi at l0 HXF HRI
            have HMI : Hid (wl.cell? ⟨bL, i, none⟩ = some (.int .i64 (xi : Nat))) := l0
            clear l0 h0
            go_wp2
            clear c0 c1 hlb
            refine wp_region_E (by kernel_rfl) [some 73, some 74, some 75, some 76, some 77, some 78, some 79, some 80, some 81, some 82, some 83, some 84, some 85, some 86, some 87, some 88, some 89, some 90, some 91, some 92, some 93, some 94, some 95, some 96, some 97, some 98, some 99, some 100, some 101, some 102, some 103] [none, none, none, none, none, none, none, none, none, none, none, none, none, none, none, none, none, none, none, none, none, none, none, none, none, none, none, none, none, none, none, none, none, none, none, none, none, none, none, none, none, none, none, none, none, none, none, none, none, none, none, none, none, none, none, none, none, none, none, none, none, none, none, none, none, none, none, none, none, none, none, none, none, some 73, some 74, some 75, some 76, some 77, some 78, some 79, some 80, some 81, some 82, some 83, some 84, some 85, some 86, some 87, some 88, some 89, some 90, some 91, some 92, some 93, some 94, some 95, some 96, some 97, some 98, some 99, some 100, some 101, some 102, some 103] (fun U => by kernel_rfl) [fun u => u = (.slice (some ⟨bL, 0, none⟩) n cL), fun u => u = (.int .i64 (i : Nat)), fun u => u = (.pointer (some ⟨bL, i, none⟩)), fun u => u = (.int .i64 (xi : Nat)), fun u => u = (.bool false), fun u => u = (.bool false), fun u => u = (.slice (some ⟨bL, 0, none⟩) n cL), fun u => u = (.int .i64 (i : Nat)), fun u => u = (.pointer (some ⟨bL, i, none⟩)), fun u => u = (.int .i64 (xi : Nat)), fun u => u = (.pointer (some ⟨bW, 1, none⟩)), fun u => u = (.slice aE d.f.ne cE), fun u => u = (.int .i64 (d.f.ne : Nat)), fun u => u = (.bool false), fun u => u = (.bool false), fun u => u = (.bool false), fun u => u = (.int .i64 (i : Nat)), fun u => u = (.bool true), fun u => u = (.bool true), fun u => u = (.slice (some ⟨bL, 0, none⟩) n cL), fun u => u = (.int .i64 (i : Nat)), fun u => u = (.int .i64 ((i : Int) - 1)), fun u => u = (.pointer (some ⟨bL, (i - 1), none⟩)), fun u => u = (.int .i64 (xj : Nat)), fun u => u = (.slice (some ⟨bL, 0, none⟩) n cL), fun u => u = (.int .i64 (i : Nat)), fun u => u = (.pointer (some ⟨bL, i, none⟩)), fun u => u = (.int .i64 (xi : Nat)), fun u => u = (.bool false), fun u => u = (.bool false), fun u => u = (.bool false)] (fun L U wr => Below wl.heap.size wl wr) (by kernel_rfl) (by decide) (by kernel_rfl) (by kernel_rfl) ?_ ?_ ?_
            · exact fun U => (Below.refl _ _).drew
            · refine StepsE.run rfl ?_ ?_
              · intro L U wr hC hP hlk hcl haf A K hFm hK
                simp [Aft, Region.binds] at haf
                have e10 : A.tmps[10]? = some (.slice (some ⟨bL, 0, none⟩) n cL) := (hFm.old 10 (by decide)).trans (by kernel_rfl)
                have HC : Hid _ := hC
                clear hC
                refine ⟨?_⟩
                go_simp
                exact hK _ _ rfl HC.out
              refine StepsE.run rfl ?_ ?_
              · intro L U wr hC hP hlk hcl haf A K hFm hK
                simp [Aft, Region.binds] at haf
                have e13 : A.tmps[13]? = some (.int .i64 (i : Nat)) := (hFm.old 13 (by decide)).trans (by kernel_rfl)
                have HC : Hid _ := hC
                clear hC
                refine ⟨?_⟩
                go_simp
                exact hK _ _ rfl HC.out
              refine StepsE.run rfl ?_ ?_
              · intro L U wr hC hP hlk hcl haf A K hFm hK
                simp [Aft, Region.binds] at haf
                have g0 : U 73 = (.slice (some ⟨bL, 0, none⟩) n cL) := hP 0 73 (by simp [haf]) rfl
                have e73 : A.tmps[73]? = some (.slice (some ⟨bL, 0, none⟩) n cL) := hFm.is 0 73 rfl g0
                have g1 : U 74 = (.int .i64 (i : Nat)) := hP 1 74 (by simp [haf]) rfl
                have e74 : A.tmps[74]? = some (.int .i64 (i : Nat)) := hFm.is 1 74 rfl g1
                have HC : Hid _ := hC
                clear hC
                refine ⟨?_⟩
                go_simp
                exact hK _ _ rfl HC.out
              refine StepsE.run rfl ?_ ?_
              · intro L U wr hC hP hlk hcl haf A K hFm hK
                simp [Aft, Region.binds] at haf
                have g2 : U 75 = (.pointer (some ⟨bL, i, none⟩)) := hP 2 75 (by simp [haf]) rfl
                have e75 : A.tmps[75]? = some (.pointer (some ⟨bL, i, none⟩)) := hFm.is 2 75 rfl g2
                have m7 := (hC.cell (p := ⟨bL, i, none⟩) HLB.out).trans HMI.out
                have HC : Hid _ := hC
                clear hC
                refine ⟨?_⟩
                go_simp
                exact hK _ _ rfl HC.out
              refine StepsE.run rfl ?_ ?_
              · intro L U wr hC hP hlk hcl haf A K hFm hK
                simp [Aft, Region.binds] at haf
                have g3 : U 76 = (.int .i64 (xi : Nat)) := hP 3 76 (by simp [haf]) rfl
                have e76 : A.tmps[76]? = some (.int .i64 (xi : Nat)) := hFm.is 3 76 rfl g3
                have h9 := HXF.out.1
                have HC : Hid _ := hC
                clear hC
                refine ⟨?_⟩
                go_simp
                exact hK _ _ rfl HC.out
              refine StepsE.run rfl ?_ ?_
              · intro L U wr hC hP hlk hcl haf A K hFm hK
                simp [Aft, Region.binds] at haf
                have g4 : U 77 = (.bool false) := hP 4 77 (by simp [haf]) rfl
                have e77 : A.tmps[77]? = some (.bool false) := hFm.is 4 77 rfl g4
                have HC : Hid _ := hC
                clear hC
                refine ⟨?_⟩
                go_simp
                exact hK _ _ rfl HC.out
              refine StepsE.runG 5 78 false rfl rfl rfl (fun L h => by simp [Aft, Region.binds] at h; simp [h]) (fun u h => h) ?_ ?_
              · intro L U wr hC hP hlk hcl haf A K hFm hK
                simp [Aft, Region.binds] at haf
                have e10 : A.tmps[10]? = some (.slice (some ⟨bL, 0, none⟩) n cL) := (hFm.old 10 (by decide)).trans (by kernel_rfl)
                have HC : Hid _ := hC
                clear hC
                refine ⟨?_⟩
                go_simp
                exact hK _ _ rfl HC.out
              refine StepsE.runG 5 78 false rfl rfl rfl (fun L h => by simp [Aft, Region.binds] at h; simp [h]) (fun u h => h) ?_ ?_
              · intro L U wr hC hP hlk hcl haf A K hFm hK
                simp [Aft, Region.binds] at haf
                have e13 : A.tmps[13]? = some (.int .i64 (i : Nat)) := (hFm.old 13 (by decide)).trans (by kernel_rfl)
                have HC : Hid _ := hC
                clear hC
                refine ⟨?_⟩
                go_simp
                exact hK _ _ rfl HC.out
              refine StepsE.runG 5 78 false rfl rfl rfl (fun L h => by simp [Aft, Region.binds] at h; simp [h]) (fun u h => h) ?_ ?_
              · intro L U wr hC hP hlk hcl haf A K hFm hK
                simp [Aft, Region.binds] at haf
                have g6 : U 79 = (.slice (some ⟨bL, 0, none⟩) n cL) := hP 6 79 (by simp [haf]) rfl
                have e79 : A.tmps[79]? = some (.slice (some ⟨bL, 0, none⟩) n cL) := hFm.is 6 79 rfl g6
                have g7 : U 80 = (.int .i64 (i : Nat)) := hP 7 80 (by simp [haf]) rfl
                have e80 : A.tmps[80]? = some (.int .i64 (i : Nat)) := hFm.is 7 80 rfl g7
                have HC : Hid _ := hC
                clear hC
                refine ⟨?_⟩
                go_simp
                exact hK _ _ rfl HC.out
              refine StepsE.runG 5 78 false rfl rfl rfl (fun L h => by simp [Aft, Region.binds] at h; simp [h]) (fun u h => h) ?_ ?_
              · intro L U wr hC hP hlk hcl haf A K hFm hK
                simp [Aft, Region.binds] at haf
                have g8 : U 81 = (.pointer (some ⟨bL, i, none⟩)) := hP 8 81 (by simp [haf]) rfl
                have e81 : A.tmps[81]? = some (.pointer (some ⟨bL, i, none⟩)) := hFm.is 8 81 rfl g8
                have m7 := (hC.cell (p := ⟨bL, i, none⟩) HLB.out).trans HMI.out
                have HC : Hid _ := hC
                clear hC
                refine ⟨?_⟩
                go_simp
                exact hK _ _ rfl HC.out
              refine StepsE.runG 5 78 false rfl rfl rfl (fun L h => by simp [Aft, Region.binds] at h; simp [h]) (fun u h => h) ?_ ?_
              · intro L U wr hC hP hlk hcl haf A K hFm hK
                simp [Aft, Region.binds] at haf
                have e8 : A.tmps[8]? = some (.pointer (some ⟨bW, 0, none⟩)) := (hFm.old 8 (by decide)).trans (by kernel_rfl)
                have m7 := (hC.cell (p := ⟨bW, 1, none⟩) HWB.out).trans HMW.out
                have HC : Hid _ := hC
                clear hC
                refine ⟨?_⟩
                go_simp
                exact hK _ _ rfl HC.out
              refine StepsE.runG 5 78 false rfl rfl rfl (fun L h => by simp [Aft, Region.binds] at h; simp [h]) (fun u h => h) ?_ ?_
              · intro L U wr hC hP hlk hcl haf A K hFm hK
                simp [Aft, Region.binds] at haf
                have g10 : U 83 = (.pointer (some ⟨bW, 1, none⟩)) := hP 10 83 (by simp [haf]) rfl
                have e83 : A.tmps[83]? = some (.pointer (some ⟨bW, 1, none⟩)) := hFm.is 10 83 rfl g10
                have m7 := (hC.cell (p := ⟨bW, 1, none⟩) HWB.out).trans HMW.out
                have HC : Hid _ := hC
                clear hC
                refine ⟨?_⟩
                go_simp
                exact hK _ _ rfl HC.out
              refine StepsE.runG 5 78 false rfl rfl rfl (fun L h => by simp [Aft, Region.binds] at h; simp [h]) (fun u h => h) ?_ ?_
              · intro L U wr hC hP hlk hcl haf A K hFm hK
                simp [Aft, Region.binds] at haf
                have g11 : U 84 = (.slice aE d.f.ne cE) := hP 11 84 (by simp [haf]) rfl
                have e84 : A.tmps[84]? = some (.slice aE d.f.ne cE) := hFm.is 11 84 rfl g11
                have HC : Hid _ := hC
                clear hC
                refine ⟨?_⟩
                go_simp
                exact hK _ _ rfl HC.out
              refine StepsE.runG 5 78 false rfl rfl rfl (fun L h => by simp [Aft, Region.binds] at h; simp [h]) (fun u h => h) ?_ ?_
              · intro L U wr hC hP hlk hcl haf A K hFm hK
                simp [Aft, Region.binds] at haf
                have g9 : U 82 = (.int .i64 (xi : Nat)) := hP 9 82 (by simp [haf]) rfl
                have e82 : A.tmps[82]? = some (.int .i64 (xi : Nat)) := hFm.is 9 82 rfl g9
                have g12 : U 85 = (.int .i64 (d.f.ne : Nat)) := hP 12 85 (by simp [haf]) rfl
                have e85 : A.tmps[85]? = some (.int .i64 (d.f.ne : Nat)) := hFm.is 12 85 rfl g12
                have h9 := HXF.out.2.1
                have h8 := HXF.out.2.2
                have HC : Hid _ := hC
                clear hC
                refine ⟨?_⟩
                go_simp
                exact hK _ _ rfl HC.out
              refine StepsE.run rfl ?_ ?_
              · intro L U wr hC hP hlk hcl haf A K hFm hK
                simp [Aft, Region.binds] at haf
                have g5 : U 78 = (.bool false) := hP 5 78 (by simp [haf]) rfl
                have e78 : A.tmps[78]? = some (.bool false) := hFm.is 5 78 rfl g5
                have g13 : U 86 = (.bool false) := hP 13 86 (by simp [haf]) rfl
                have e86 : A.tmps[86]? = some (.bool false) := hFm.is 13 86 rfl g13
                have HC : Hid _ := hC
                clear hC
                refine ⟨?_⟩
                go_simp
                exact hK _ _ rfl HC.out
              refine StepsE.run rfl ?_ ?_
              · intro L U wr hC hP hlk hcl haf A K hFm hK
                simp [Aft, Region.binds] at haf
                have g14 : U 87 = (.bool false) := hP 14 87 (by simp [haf]) rfl
                have e87 : A.tmps[87]? = some (.bool false) := hFm.is 14 87 rfl g14
                have HC : Hid _ := hC
                clear hC
                refine ⟨?_⟩
                go_simp
                exact hK _ _ rfl HC.out
              refine StepsE.runG 15 88 false rfl rfl rfl (fun L h => by simp [Aft, Region.binds] at h; simp [h]) (fun u h => h) ?_ ?_
              · intro L U wr hC hP hlk hcl haf A K hFm hK
                simp [Aft, Region.binds] at haf
                have e13 : A.tmps[13]? = some (.int .i64 (i : Nat)) := (hFm.old 13 (by decide)).trans (by kernel_rfl)
                have HC : Hid _ := hC
                clear hC
                refine ⟨?_⟩
                go_simp
                exact hK _ _ rfl HC.out
              refine StepsE.runG 15 88 false rfl rfl rfl (fun L h => by simp [Aft, Region.binds] at h; simp [h]) (fun u h => h) ?_ ?_
              · intro L U wr hC hP hlk hcl haf A K hFm hK
                simp [Aft, Region.binds] at haf
                have g16 : U 89 = (.int .i64 (i : Nat)) := hP 16 89 (by simp [haf]) rfl
                have e89 : A.tmps[89]? = some (.int .i64 (i : Nat)) := hFm.is 16 89 rfl g16
                have h9 : 0 < i := by have := H0I.out; omega
                have HC : Hid _ := hC
                clear hC
                refine ⟨?_⟩
                go_simp
                exact hK _ _ rfl HC.out
              refine StepsE.runG 15 88 false rfl rfl rfl (fun L h => by simp [Aft, Region.binds] at h; simp [h]) (fun u h => h) ?_ ?_
              · intro L U wr hC hP hlk hcl haf A K hFm hK
                simp [Aft, Region.binds] at haf
                have g17 : U 90 = (.bool true) := hP 17 90 (by simp [haf]) rfl
                have e90 : A.tmps[90]? = some (.bool true) := hFm.is 17 90 rfl g17
                have HC : Hid _ := hC
                clear hC
                refine ⟨?_⟩
                go_simp
                exact hK _ _ rfl HC.out
              refine StepsE.runG 18 91 true rfl rfl rfl (fun L h => by simp [Aft, Region.binds] at h; simp [h]) (fun u h => h) ?_ ?_
              · intro L U wr hC hP hlk hcl haf A K hFm hK
                simp [Aft, Region.binds] at haf
                have e10 : A.tmps[10]? = some (.slice (some ⟨bL, 0, none⟩) n cL) := (hFm.old 10 (by decide)).trans (by kernel_rfl)
                have HC : Hid _ := hC
                clear hC
                refine ⟨?_⟩
                go_simp
                exact hK _ _ rfl HC.out
              refine StepsE.runG 18 91 true rfl rfl rfl (fun L h => by simp [Aft, Region.binds] at h; simp [h]) (fun u h => h) ?_ ?_
              · intro L U wr hC hP hlk hcl haf A K hFm hK
                simp [Aft, Region.binds] at haf
                have e13 : A.tmps[13]? = some (.int .i64 (i : Nat)) := (hFm.old 13 (by decide)).trans (by kernel_rfl)
                have HC : Hid _ := hC
                clear hC
                refine ⟨?_⟩
                go_simp
                exact hK _ _ rfl HC.out
              refine StepsE.runG 18 91 true rfl rfl rfl (fun L h => by simp [Aft, Region.binds] at h; simp [h]) (fun u h => h) ?_ ?_
              · intro L U wr hC hP hlk hcl haf A K hFm hK
                simp [Aft, Region.binds] at haf
                have g20 : U 93 = (.int .i64 (i : Nat)) := hP 20 93 (by simp [haf]) rfl
                have e93 : A.tmps[93]? = some (.int .i64 (i : Nat)) := hFm.is 20 93 rfl g20
                have h7 : IntKind.i64.wrap ((i : Int) - 1) = (i : Int) - 1 := by have h9 := H0I.out; have h8 := HI6.out; rw [IntWalk.i64_left, IntWalk.wrap64_in _ (by omega)]
                have HC : Hid _ := hC
                clear hC
                refine ⟨?_⟩
                go_simp
                exact hK _ _ rfl HC.out
              refine StepsE.runG 18 91 true rfl rfl rfl (fun L h => by simp [Aft, Region.binds] at h; simp [h]) (fun u h => h) ?_ ?_
              · intro L U wr hC hP hlk hcl haf A K hFm hK
                simp [Aft, Region.binds] at haf
                have g19 : U 92 = (.slice (some ⟨bL, 0, none⟩) n cL) := hP 19 92 (by simp [haf]) rfl
                have e92 : A.tmps[92]? = some (.slice (some ⟨bL, 0, none⟩) n cL) := hFm.is 19 92 rfl g19
                have g21 : U 94 = (.int .i64 ((i : Int) - 1)) := hP 21 94 (by simp [haf]) rfl
                have e94 : A.tmps[94]? = some (.int .i64 ((i : Int) - 1)) := hFm.is 21 94 rfl g21
                have h5 : (1 : Int) ≤ (i : Int) := by have := H0I.out; omega
                have h9 : 1 ≤ i := by have := H0I.out; omega
                have h8 : i - 1 < n := by have := HI6.out; omega
                have h7 : ((i : Int) - 1) < (n : Int) := by omega
                have h6 : (0 : Int) ≤ ((i : Int) - 1) := by omega
                have HC : Hid _ := hC
                clear hC
                refine ⟨?_⟩
                go_simp
                exact hK _ _ rfl HC.out
              refine StepsE.runG 18 91 true rfl rfl rfl (fun L h => by simp [Aft, Region.binds] at h; simp [h]) (fun u h => h) ?_ ?_
              · intro L U wr hC hP hlk hcl haf A K hFm hK
                simp [Aft, Region.binds] at haf
                have g22 : U 95 = (.pointer (some ⟨bL, (i - 1), none⟩)) := hP 22 95 (by simp [haf]) rfl
                have e95 : A.tmps[95]? = some (.pointer (some ⟨bL, (i - 1), none⟩)) := hFm.is 22 95 rfl g22
                have m7 := (hC.cell (p := ⟨bL, i - 1, none⟩) HLB.out).trans HMJ.out
                have HC : Hid _ := hC
                clear hC
                refine ⟨?_⟩
                go_simp
                exact hK _ _ rfl HC.out
              refine StepsE.runG 18 91 true rfl rfl rfl (fun L h => by simp [Aft, Region.binds] at h; simp [h]) (fun u h => h) ?_ ?_
              · intro L U wr hC hP hlk hcl haf A K hFm hK
                simp [Aft, Region.binds] at haf
                have e10 : A.tmps[10]? = some (.slice (some ⟨bL, 0, none⟩) n cL) := (hFm.old 10 (by decide)).trans (by kernel_rfl)
                have HC : Hid _ := hC
                clear hC
                refine ⟨?_⟩
                go_simp
                exact hK _ _ rfl HC.out
              refine StepsE.runG 18 91 true rfl rfl rfl (fun L h => by simp [Aft, Region.binds] at h; simp [h]) (fun u h => h) ?_ ?_
              · intro L U wr hC hP hlk hcl haf A K hFm hK
                simp [Aft, Region.binds] at haf
                have e13 : A.tmps[13]? = some (.int .i64 (i : Nat)) := (hFm.old 13 (by decide)).trans (by kernel_rfl)
                have HC : Hid _ := hC
                clear hC
                refine ⟨?_⟩
                go_simp
                exact hK _ _ rfl HC.out
              refine StepsE.runG 18 91 true rfl rfl rfl (fun L h => by simp [Aft, Region.binds] at h; simp [h]) (fun u h => h) ?_ ?_
              · intro L U wr hC hP hlk hcl haf A K hFm hK
                simp [Aft, Region.binds] at haf
                have g24 : U 97 = (.slice (some ⟨bL, 0, none⟩) n cL) := hP 24 97 (by simp [haf]) rfl
                have e97 : A.tmps[97]? = some (.slice (some ⟨bL, 0, none⟩) n cL) := hFm.is 24 97 rfl g24
                have g25 : U 98 = (.int .i64 (i : Nat)) := hP 25 98 (by simp [haf]) rfl
                have e98 : A.tmps[98]? = some (.int .i64 (i : Nat)) := hFm.is 25 98 rfl g25
                have HC : Hid _ := hC
                clear hC
                refine ⟨?_⟩
                go_simp
                exact hK _ _ rfl HC.out
              refine StepsE.runG 18 91 true rfl rfl rfl (fun L h => by simp [Aft, Region.binds] at h; simp [h]) (fun u h => h) ?_ ?_
              · intro L U wr hC hP hlk hcl haf A K hFm hK
                simp [Aft, Region.binds] at haf
                have g26 : U 99 = (.pointer (some ⟨bL, i, none⟩)) := hP 26 99 (by simp [haf]) rfl
                have e99 : A.tmps[99]? = some (.pointer (some ⟨bL, i, none⟩)) := hFm.is 26 99 rfl g26
                have m7 := (hC.cell (p := ⟨bL, i, none⟩) HLB.out).trans HMI.out
                have HC : Hid _ := hC
                clear hC
                refine ⟨?_⟩
                go_simp
                exact hK _ _ rfl HC.out
              refine StepsE.runG 18 91 true rfl rfl rfl (fun L h => by simp [Aft, Region.binds] at h; simp [h]) (fun u h => h) ?_ ?_
              · intro L U wr hC hP hlk hcl haf A K hFm hK
                simp [Aft, Region.binds] at haf
                have g23 : U 96 = (.int .i64 (xj : Nat)) := hP 23 96 (by simp [haf]) rfl
                have e96 : A.tmps[96]? = some (.int .i64 (xj : Nat)) := hFm.is 23 96 rfl g23
                have g27 : U 100 = (.int .i64 (xi : Nat)) := hP 27 100 (by simp [haf]) rfl
                have e100 : A.tmps[100]? = some (.int .i64 (xi : Nat)) := hFm.is 27 100 rfl g27
                have h9 := HRI.out.1
                have h8 := HRI.out.2
                have HC : Hid _ := hC
                clear hC
                refine ⟨?_⟩
                go_simp
                exact hK _ _ rfl HC.out
              refine StepsE.runG 15 88 false rfl rfl rfl (fun L h => by simp [Aft, Region.binds] at h; simp [h]) (fun u h => h) ?_ ?_
              · intro L U wr hC hP hlk hcl haf A K hFm hK
                simp [Aft, Region.binds] at haf
                have g18 : U 91 = (.bool true) := hP 18 91 (by simp [haf]) rfl
                have e91 : A.tmps[91]? = some (.bool true) := hFm.is 18 91 rfl g18
                have g28 : U 101 = (.bool false) := hP 28 101 (by simp [haf]) rfl
                have e101 : A.tmps[101]? = some (.bool false) := hFm.is 28 101 rfl g28
                have HC : Hid _ := hC
                clear hC
                refine ⟨?_⟩
                go_simp
                exact hK _ _ rfl HC.out
              refine StepsE.run rfl ?_ StepsE.nil
              · intro L U wr hC hP hlk hcl haf A K hFm hK
                simp [Aft, Region.binds] at haf
                have g15 : U 88 = (.bool false) := hP 15 88 (by simp [haf]) rfl
                have e88 : A.tmps[88]? = some (.bool false) := hFm.is 15 88 rfl g15
                have g29 : U 102 = (.bool false) := hP 29 102 (by simp [haf]) rfl
                have e102 : A.tmps[102]? = some (.bool false) := hFm.is 29 102 rfl g29
                have HC : Hid _ := hC
                clear hC
                refine ⟨?_⟩
                go_simp
                exact hK _ _ rfl HC.out
            intro L U5 V5 hall hC hP
            have HC5 : Hid (Below wl.heap.size wl V5) := hC
            have e103 : U5 103 = .bool false := hP 30 103 rfl
            simp only [setM_some, setM_none, setM_nil]
            rw [e103]
            clear hC hP hall e103 HMJ HRI H0I HMI HXF HLB HWB HMW HI6
            go_wp2
            go_roundw
            case rel => exact ⟨i + 1, by go_num, by omega, HBl.out.trans (HC5.out.mono HBl.out.size)⟩
            case measure => simp [intOf] <;> omega
          · have H0I : Hid (¬ ((0 : Int) < (i : Int))) := by show ¬ _; omega
            generalize lf i = xi at l0 HXF
            have HMI : Hid (wl.cell? ⟨bL, i, none⟩ = some (.int .i64 (xi : Nat))) := l0
            clear l0 h0 hbL hx
            go_wp2
            clear c0 c1 hlb
            refine wp_region_E (by kernel_rfl) [some 73, some 74, some 75, some 76, some 77, some 78, some 79, some 80, some 81, some 82, some 83, some 84, some 85, some 86, some 87, some 88, some 89, some 90, some 91, some 92, some 93, some 94, some 95, some 96, some 97, some 98, some 99, some 100, some 101, some 102, some 103] [none, none, none, none, none, none, none, none, none, none, none, none, none, none, none, none, none, none, none, none, none, none, none, none, none, none, none, none, none, none, none, none, none, none, none, none, none, none, none, none, none, none, none, none, none, none, none, none, none, none, none, none, none, none, none, none, none, none, none, none, none, none, none, none, none, none, none, none, none, none, none, none, none, some 73, some 74, some 75, some 76, some 77, some 78, some 79, some 80, some 81, some 82, some 83, some 84, some 85, some 86, some 87, some 88, some 89, some 90, some 91, some 92, some 93, some 94, some 95, some 96, some 97, some 98, some 99, some 100, some 101, some 102, some 103] (fun U => by kernel_rfl) [fun u => u = (.slice (some ⟨bL, 0, none⟩) n cL), fun u => u = (.int .i64 (i : Nat)), fun u => u = (.pointer (some ⟨bL, i, none⟩)), fun u => u = (.int .i64 (xi : Nat)), fun u => u = (.bool false), fun u => u = (.bool false), fun u => u = (.slice (some ⟨bL, 0, none⟩) n cL), fun u => u = (.int .i64 (i : Nat)), fun u => u = (.pointer (some ⟨bL, i, none⟩)), fun u => u = (.int .i64 (xi : Nat)), fun u => u = (.pointer (some ⟨bW, 1, none⟩)), fun u => u = (.slice aE d.f.ne cE), fun u => u = (.int .i64 (d.f.ne : Nat)), fun u => u = (.bool false), fun u => u = (.bool false), fun u => u = (.bool false), fun u => u = (.int .i64 (i : Nat)), fun u => u = (.bool false), fun u => u = (.bool false), fun _ => True, fun _ => True, fun _ => True, fun _ => True, fun _ => True, fun _ => True, fun _ => True, fun _ => True, fun _ => True, fun _ => True, fun u => u = (.bool false), fun u => u = (.bool false)] (fun L U wr => Below wl.heap.size wl wr) (by kernel_rfl) (by decide) (by kernel_rfl) (by kernel_rfl) ?_ ?_ ?_
            · exact fun U => (Below.refl _ _).drew
            · refine StepsE.run rfl ?_ ?_
              · intro L U wr hC hP hlk hcl haf A K hFm hK
                simp [Aft, Region.binds] at haf
                have e10 : A.tmps[10]? = some (.slice (some ⟨bL, 0, none⟩) n cL) := (hFm.old 10 (by decide)).trans (by kernel_rfl)
                have HC : Hid _ := hC
                clear hC
                refine ⟨?_⟩
                go_simp
                exact hK _ _ rfl HC.out
              refine StepsE.run rfl ?_ ?_
              · intro L U wr hC hP hlk hcl haf A K hFm hK
                simp [Aft, Region.binds] at haf
                have e13 : A.tmps[13]? = some (.int .i64 (i : Nat)) := (hFm.old 13 (by decide)).trans (by kernel_rfl)
                have HC : Hid _ := hC
                clear hC
                refine ⟨?_⟩
                go_simp
                exact hK _ _ rfl HC.out
              refine StepsE.run rfl ?_ ?_
              · intro L U wr hC hP hlk hcl haf A K hFm hK
                simp [Aft, Region.binds] at haf
                have g0 : U 73 = (.slice (some ⟨bL, 0, none⟩) n cL) := hP 0 73 (by simp [haf]) rfl
                have e73 : A.tmps[73]? = some (.slice (some ⟨bL, 0, none⟩) n cL) := hFm.is 0 73 rfl g0
                have g1 : U 74 = (.int .i64 (i : Nat)) := hP 1 74 (by simp [haf]) rfl
                have e74 : A.tmps[74]? = some (.int .i64 (i : Nat)) := hFm.is 1 74 rfl g1
                have HC : Hid _ := hC
                clear hC
                refine ⟨?_⟩
                go_simp
                exact hK _ _ rfl HC.out
              refine StepsE.run rfl ?_ ?_
              · intro L U wr hC hP hlk hcl haf A K hFm hK
                simp [Aft, Region.binds] at haf
                have g2 : U 75 = (.pointer (some ⟨bL, i, none⟩)) := hP 2 75 (by simp [haf]) rfl
                have e75 : A.tmps[75]? = some (.pointer (some ⟨bL, i, none⟩)) := hFm.is 2 75 rfl g2
                have m7 := (hC.cell (p := ⟨bL, i, none⟩) HLB.out).trans HMI.out
                have HC : Hid _ := hC
                clear hC
                refine ⟨?_⟩
                go_simp
                exact hK _ _ rfl HC.out
              refine StepsE.run rfl ?_ ?_
              · intro L U wr hC hP hlk hcl haf A K hFm hK
                simp [Aft, Region.binds] at haf
                have g3 : U 76 = (.int .i64 (xi : Nat)) := hP 3 76 (by simp [haf]) rfl
                have e76 : A.tmps[76]? = some (.int .i64 (xi : Nat)) := hFm.is 3 76 rfl g3
                have h9 := HXF.out.1
                have HC : Hid _ := hC
                clear hC
                refine ⟨?_⟩
                go_simp
                exact hK _ _ rfl HC.out
              refine StepsE.run rfl ?_ ?_
              · intro L U wr hC hP hlk hcl haf A K hFm hK
                simp [Aft, Region.binds] at haf
                have g4 : U 77 = (.bool false) := hP 4 77 (by simp [haf]) rfl
                have e77 : A.tmps[77]? = some (.bool false) := hFm.is 4 77 rfl g4
                have HC : Hid _ := hC
                clear hC
                refine ⟨?_⟩
                go_simp
                exact hK _ _ rfl HC.out
              refine StepsE.runG 5 78 false rfl rfl rfl (fun L h => by simp [Aft, Region.binds] at h; simp [h]) (fun u h => h) ?_ ?_
              · intro L U wr hC hP hlk hcl haf A K hFm hK
                simp [Aft, Region.binds] at haf
                have e10 : A.tmps[10]? = some (.slice (some ⟨bL, 0, none⟩) n cL) := (hFm.old 10 (by decide)).trans (by kernel_rfl)
                have HC : Hid _ := hC
                clear hC
                refine ⟨?_⟩
                go_simp
                exact hK _ _ rfl HC.out
              refine StepsE.runG 5 78 false rfl rfl rfl (fun L h => by simp [Aft, Region.binds] at h; simp [h]) (fun u h => h) ?_ ?_
              · intro L U wr hC hP hlk hcl haf A K hFm hK
                simp [Aft, Region.binds] at haf
                have e13 : A.tmps[13]? = some (.int .i64 (i : Nat)) := (hFm.old 13 (by decide)).trans (by kernel_rfl)
                have HC : Hid _ := hC
                clear hC
                refine ⟨?_⟩
                go_simp
                exact hK _ _ rfl HC.out
              refine StepsE.runG 5 78 false rfl rfl rfl (fun L h => by simp [Aft, Region.binds] at h; simp [h]) (fun u h => h) ?_ ?_
              · intro L U wr hC hP hlk hcl haf A K hFm hK
                simp [Aft, Region.binds] at haf
                have g6 : U 79 = (.slice (some ⟨bL, 0, none⟩) n cL) := hP 6 79 (by simp [haf]) rfl
                have e79 : A.tmps[79]? = some (.slice (some ⟨bL, 0, none⟩) n cL) := hFm.is 6 79 rfl g6
                have g7 : U 80 = (.int .i64 (i : Nat)) := hP 7 80 (by simp [haf]) rfl
                have e80 : A.tmps[80]? = some (.int .i64 (i : Nat)) := hFm.is 7 80 rfl g7
                have HC : Hid _ := hC
                clear hC
                refine ⟨?_⟩
                go_simp
                exact hK _ _ rfl HC.out
              refine StepsE.runG 5 78 false rfl rfl rfl (fun L h => by simp [Aft, Region.binds] at h; simp [h]) (fun u h => h) ?_ ?_
              · intro L U wr hC hP hlk hcl haf A K hFm hK
                simp [Aft, Region.binds] at haf
                have g8 : U 81 = (.pointer (some ⟨bL, i, none⟩)) := hP 8 81 (by simp [haf]) rfl
                have e81 : A.tmps[81]? = some (.pointer (some ⟨bL, i, none⟩)) := hFm.is 8 81 rfl g8
                have m7 := (hC.cell (p := ⟨bL, i, none⟩) HLB.out).trans HMI.out
                have HC : Hid _ := hC
                clear hC
                refine ⟨?_⟩
                go_simp
                exact hK _ _ rfl HC.out
              refine StepsE.runG 5 78 false rfl rfl rfl (fun L h => by simp [Aft, Region.binds] at h; simp [h]) (fun u h => h) ?_ ?_
              · intro L U wr hC hP hlk hcl haf A K hFm hK
                simp [Aft, Region.binds] at haf
                have e8 : A.tmps[8]? = some (.pointer (some ⟨bW, 0, none⟩)) := (hFm.old 8 (by decide)).trans (by kernel_rfl)
                have m7 := (hC.cell (p := ⟨bW, 1, none⟩) HWB.out).trans HMW.out
                have HC : Hid _ := hC
                clear hC
                refine ⟨?_⟩
                go_simp
                exact hK _ _ rfl HC.out
              refine StepsE.runG 5 78 false rfl rfl rfl (fun L h => by simp [Aft, Region.binds] at h; simp [h]) (fun u h => h) ?_ ?_
              · intro L U wr hC hP hlk hcl haf A K hFm hK
                simp [Aft, Region.binds] at haf
                have g10 : U 83 = (.pointer (some ⟨bW, 1, none⟩)) := hP 10 83 (by simp [haf]) rfl
                have e83 : A.tmps[83]? = some (.pointer (some ⟨bW, 1, none⟩)) := hFm.is 10 83 rfl g10
                have m7 := (hC.cell (p := ⟨bW, 1, none⟩) HWB.out).trans HMW.out
                have HC : Hid _ := hC
                clear hC
                refine ⟨?_⟩
                go_simp
                exact hK _ _ rfl HC.out
              refine StepsE.runG 5 78 false rfl rfl rfl (fun L h => by simp [Aft, Region.binds] at h; simp [h]) (fun u h => h) ?_ ?_
              · intro L U wr hC hP hlk hcl haf A K hFm hK
                simp [Aft, Region.binds] at haf
                have g11 : U 84 = (.slice aE d.f.ne cE) := hP 11 84 (by simp [haf]) rfl
                have e84 : A.tmps[84]? = some (.slice aE d.f.ne cE) := hFm.is 11 84 rfl g11
                have HC : Hid _ := hC
                clear hC
                refine ⟨?_⟩
                go_simp
                exact hK _ _ rfl HC.out
              refine StepsE.runG 5 78 false rfl rfl rfl (fun L h => by simp [Aft, Region.binds] at h; simp [h]) (fun u h => h) ?_ ?_
              · intro L U wr hC hP hlk hcl haf A K hFm hK
                simp [Aft, Region.binds] at haf
                have g9 : U 82 = (.int .i64 (xi : Nat)) := hP 9 82 (by simp [haf]) rfl
                have e82 : A.tmps[82]? = some (.int .i64 (xi : Nat)) := hFm.is 9 82 rfl g9
                have g12 : U 85 = (.int .i64 (d.f.ne : Nat)) := hP 12 85 (by simp [haf]) rfl
                have e85 : A.tmps[85]? = some (.int .i64 (d.f.ne : Nat)) := hFm.is 12 85 rfl g12
                have h9 := HXF.out.2.1
                have h8 := HXF.out.2.2
                have HC : Hid _ := hC
                clear hC
                refine ⟨?_⟩
                go_simp
                exact hK _ _ rfl HC.out
              refine StepsE.run rfl ?_ ?_
              · intro L U wr hC hP hlk hcl haf A K hFm hK
                simp [Aft, Region.binds] at haf
                have g5 : U 78 = (.bool false) := hP 5 78 (by simp [haf]) rfl
                have e78 : A.tmps[78]? = some (.bool false) := hFm.is 5 78 rfl g5
                have g13 : U 86 = (.bool false) := hP 13 86 (by simp [haf]) rfl
                have e86 : A.tmps[86]? = some (.bool false) := hFm.is 13 86 rfl g13
                have HC : Hid _ := hC
                clear hC
                refine ⟨?_⟩
                go_simp
                exact hK _ _ rfl HC.out
              refine StepsE.run rfl ?_ ?_
              · intro L U wr hC hP hlk hcl haf A K hFm hK
                simp [Aft, Region.binds] at haf
                have g14 : U 87 = (.bool false) := hP 14 87 (by simp [haf]) rfl
                have e87 : A.tmps[87]? = some (.bool false) := hFm.is 14 87 rfl g14
                have HC : Hid _ := hC
                clear hC
                refine ⟨?_⟩
                go_simp
                exact hK _ _ rfl HC.out
              refine StepsE.runG 15 88 false rfl rfl rfl (fun L h => by simp [Aft, Region.binds] at h; simp [h]) (fun u h => h) ?_ ?_
              · intro L U wr hC hP hlk hcl haf A K hFm hK
                simp [Aft, Region.binds] at haf
                have e13 : A.tmps[13]? = some (.int .i64 (i : Nat)) := (hFm.old 13 (by decide)).trans (by kernel_rfl)
                have HC : Hid _ := hC
                clear hC
                refine ⟨?_⟩
                go_simp
                exact hK _ _ rfl HC.out
              refine StepsE.runG 15 88 false rfl rfl rfl (fun L h => by simp [Aft, Region.binds] at h; simp [h]) (fun u h => h) ?_ ?_
              · intro L U wr hC hP hlk hcl haf A K hFm hK
                simp [Aft, Region.binds] at haf
                have g16 : U 89 = (.int .i64 (i : Nat)) := hP 16 89 (by simp [haf]) rfl
                have e89 : A.tmps[89]? = some (.int .i64 (i : Nat)) := hFm.is 16 89 rfl g16
                have h9 : ¬ (0 < i) := by have := H0I.out; omega
                have HC : Hid _ := hC
                clear hC
                refine ⟨?_⟩
                go_simp
                exact hK _ _ rfl HC.out
              refine StepsE.runG 15 88 false rfl rfl rfl (fun L h => by simp [Aft, Region.binds] at h; simp [h]) (fun u h => h) ?_ ?_
              · intro L U wr hC hP hlk hcl haf A K hFm hK
                simp [Aft, Region.binds] at haf
                have g17 : U 90 = (.bool false) := hP 17 90 (by simp [haf]) rfl
                have e90 : A.tmps[90]? = some (.bool false) := hFm.is 17 90 rfl g17
                have HC : Hid _ := hC
                clear hC
                refine ⟨?_⟩
                go_simp
                exact hK _ _ rfl HC.out
              refine StepsE.skipG 18 91 true false rfl (by decide) rfl rfl (fun L h => by simp [Aft, Region.binds] at h; simp [h]) (fun u h => h) trivial (fun L U w h _ => h) ?_
              refine StepsE.skipG 18 91 true false rfl (by decide) rfl rfl (fun L h => by simp [Aft, Region.binds] at h; simp [h]) (fun u h => h) trivial (fun L U w h _ => h) ?_
              refine StepsE.skipG 18 91 true false rfl (by decide) rfl rfl (fun L h => by simp [Aft, Region.binds] at h; simp [h]) (fun u h => h) trivial (fun L U w h _ => h) ?_
              refine StepsE.skipG 18 91 true false rfl (by decide) rfl rfl (fun L h => by simp [Aft, Region.binds] at h; simp [h]) (fun u h => h) trivial (fun L U w h _ => h) ?_
              refine StepsE.skipG 18 91 true false rfl (by decide) rfl rfl (fun L h => by simp [Aft, Region.binds] at h; simp [h]) (fun u h => h) trivial (fun L U w h _ => h) ?_
              refine StepsE.skipG 18 91 true false rfl (by decide) rfl rfl (fun L h => by simp [Aft, Region.binds] at h; simp [h]) (fun u h => h) trivial (fun L U w h _ => h) ?_
              refine StepsE.skipG 18 91 true false rfl (by decide) rfl rfl (fun L h => by simp [Aft, Region.binds] at h; simp [h]) (fun u h => h) trivial (fun L U w h _ => h) ?_
              refine StepsE.skipG 18 91 true false rfl (by decide) rfl rfl (fun L h => by simp [Aft, Region.binds] at h; simp [h]) (fun u h => h) trivial (fun L U w h _ => h) ?_
              refine StepsE.skipG 18 91 true false rfl (by decide) rfl rfl (fun L h => by simp [Aft, Region.binds] at h; simp [h]) (fun u h => h) trivial (fun L U w h _ => h) ?_
              refine StepsE.skipG 18 91 true false rfl (by decide) rfl rfl (fun L h => by simp [Aft, Region.binds] at h; simp [h]) (fun u h => h) trivial (fun L U w h _ => h) ?_
              refine StepsE.runG 15 88 false rfl rfl rfl (fun L h => by simp [Aft, Region.binds] at h; simp [h]) (fun u h => h) ?_ ?_
              · intro L U wr hC hP hlk hcl haf A K hFm hK
                simp [Aft, Region.binds] at haf
                have g18 : U 91 = (.bool false) := hP 18 91 (by simp [haf]) rfl
                have e91 : A.tmps[91]? = some (.bool false) := hFm.is 18 91 rfl g18
                have e101 : A.tmps[101]? = some (U 101) := hFm.got 28 101 rfl
                have HC : Hid _ := hC
                clear hC
                refine ⟨?_⟩
                go_simp
                exact hK _ _ rfl HC.out
              refine StepsE.run rfl ?_ StepsE.nil
              · intro L U wr hC hP hlk hcl haf A K hFm hK
                simp [Aft, Region.binds] at haf
                have g15 : U 88 = (.bool false) := hP 15 88 (by simp [haf]) rfl
                have e88 : A.tmps[88]? = some (.bool false) := hFm.is 15 88 rfl g15
                have g29 : U 102 = (.bool false) := hP 29 102 (by simp [haf]) rfl
                have e102 : A.tmps[102]? = some (.bool false) := hFm.is 29 102 rfl g29
                have HC : Hid _ := hC
                clear hC
                refine ⟨?_⟩
                go_simp
                exact hK _ _ rfl HC.out
            intro L U5 V5 hall hC hP
            have HC5 : Hid (Below wl.heap.size wl V5) := hC
            have e103 : U5 103 = .bool false := hP 30 103 rfl
            simp only [setM_some, setM_none, setM_nil]
            rw [e103]
            clear hC hP hall e103 H0I HMI HXF HLB HWB HMW HI6
            go_wp2
            go_roundw
            case rel => exact ⟨i + 1, by go_num, by omega, HBl.out.trans (HC5.out.mono HBl.out.size)⟩
            case measure => simp [intOf] <;> omega
        · have hltI : ¬ ((i : Int) < (n : Int)) := by omega
          obtain rfl : i = n := by omega
          go_wp2_with fail
          refine (Only_any d aN aE cN cE rg aL i cL lf wl (HR7.out.below HB17.out) (HV.out.stay (fun b hb => HB17.out.block b (HV.out.lt hb))) HT.out.lt (by omega) (by omega)).mono ?_
          rintro e w11 ⟨aO, cO, rfl, hO1, hO2, hb11⟩
          have HR11 : Hid (RG w11 (.slice aN d.t.nn cN) (.slice aO i cO) rg (dO d i lf)) := by
            have h9 := (HR7.out.below HB17.out).below hb11
            exact ⟨h9.nodes, h9.args, hO1⟩
          have HB11 : Hid (Below w.heap.size w w11) := (HB7.out.trans (HB17.out.mono HB7.out.size)).trans (hb11.mono (Nat.le_trans HB7.out.size HB17.out.size))
          clear hO1 hO2 hb11 c0 c1 hlb
          go_wp2_with fail
          refine (Closed_core (dO d i lf) aN aO cN cO rg w11 HR11.out (dO_dg HD.out.2.2.1.dg HT.out.lt) HD.out.1 hln HD.out.2.2.2).mono ?_
          rintro e w12 ⟨bC2, c2, rfl, hci, hc1, hb12, hlst⟩
          have hcc : c2 na = c2 nb := ((hlst na hna).same (hlst nb hnb)).2 HT.out.follow
          have l0 := hci.cell (i := na) hna (j := 0) (by omega)
          have l1 := hci.cell (i := nb) hnb (j := 0) (by omega)
          simp only [Nat.add_zero, Nat.mul_one, List.getElem?_cons_zero] at l0 l1
          rw [← hcc] at l1
          have hbC : bC2 < w12.heap.size := hci.lt rfl
          have HB12 : Hid (Below w.heap.size w w12) := HB11.out.trans (hb12.mono HB11.out.size)
          have hnn2 : (dO d i lf).t.nn = d.t.nn := rfl
          rw [hnn2]
          clear hci hc1 hb12 hlst hcc hnn2 HR11
          go_wp2
          go_quiet (fail)
          go_wp2
          go_ret
          exact ⟨rfl, HB12.out.trans ⟨rfl, rfl, rfl, Nat.le_refl _, fun _ _ => rfl⟩⟩
end Euf
end Go.Proofs.Ytlonnhnfmcndfac
