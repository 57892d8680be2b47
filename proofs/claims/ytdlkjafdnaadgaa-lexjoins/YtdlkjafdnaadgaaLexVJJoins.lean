/- The walk of LexJoins. No statement of the seat is proved here. -/
import Derived.Test.YtdlkjafdnaadgaaLexUJJoins
namespace Go.Proofs.Ytdlkjafdnaadgaa
open Go Go.RowKit
set_option linter.unusedVariables false
set_option linter.unusedSimpArgs false
namespace Lex
open Euf (OL App Stop wpList_push)

theorem uStrs : Try.prog.underlying 35 = some (.slice 9) := by kernel_rfl
theorem iStr1 : (Try.prog.info? 9).map (fun i => (i.zero, i.size, i.bytes)) = some (some (.string ByteArray.empty), 1, 16) := by kernel_rfl
theorem sC_app {xs : List (List UInt8)} {x : List UInt8} : (∀ k, k < xs.length → sC (xs ++ [x]) k = sC xs k) ∧ sC (xs ++ [x]) xs.length = [.string (tx x)] := by
  refine ⟨fun k hk => ?_, ?_⟩
  · simp [sC, List.getElem?_append_left hk]
  · simp [sC]
/-- The state while the texts are gathered. -/
structure XS (w0 wr : World) (vl vt : Value) (ts : List T) (xs : List (List UInt8)) : Prop where
  bel : Below w0.heap.size w0 wr
  toks : TL wr vl ts
  list : SL wr vt xs
  own : ∀ c, vt.ownBlock = some c → w0.heap.size ≤ c
theorem XS.push {w0 wr w' : World} {vl vt vt' : Value} {ts : List T} {xs : List (List UInt8)} {x : List UInt8} (h : XS w0 wr vl vt ts xs) (ha : App vt vt' wr w') (hl : OL 1 9 w' vt' (xs.length + 1) (sC (xs ++ [x]))) : XS w0 w' vl vt' ts (xs ++ [x]) := by
  have hs := h.bel.size
  refine ⟨?_, OL.stay h.toks fun b hb => ?_, by unfold SL; rw [List.length_append, List.length_singleton]; exact hl, fun b hb => ?_⟩
  · exact ⟨ha.os.trans h.bel.os, ha.tape.trans h.bel.tape, ha.output.trans h.bel.output, Nat.le_trans h.bel.size ha.size, fun b hb => (ha.other b (by omega) (fun k => absurd (h.own _ k) (by omega))).trans (h.bel.block b hb)⟩
  · refine ha.other b (OL.lt h.toks hb) (fun q => ?_)
    obtain ⟨c1, k1⟩ := OL.elem h.toks hb
    obtain ⟨c2, k2⟩ := OL.elem h.list q
    rw [k1] at k2
    injection k2 with k2
    injection k2 with k5 k6
    exact absurd k6 (by decide)
  · rcases ha.at_ with k | ⟨b', k, k2⟩
    · exact h.own b (k ▸ hb)
    · rw [hb] at k; injection k with k; omega
theorem out_join {s : List UInt8} {ts : List T} {a : Nat} (h : Out s ts 0 a) {ts' : List T} {c' a' : Nat} (hl : (jn (ts.map (·.x))).length ≤ 65536) (h' : Out (jn (ts.map (·.x))) ts' c' a') : ts' = put 0 ts ∧ c' = 0 := by
  obtain ⟨h0, h1, -⟩ := h.good
  have := h'.det (Or.inr ⟨hl, _, join_lx ts 0 h1.good, rfl⟩)
  exact ⟨by rw [this.1, if_pos rfl], this.2.1⟩
set_option maxHeartbeats 8000000 in
set_option maxRecDepth 100000 in
theorem lexJoins_any (s : ByteArray) (w : World) (hl : s.size ≤ maxLen) :
    Calls Try.prog 5 #[.string s] w fun e w' => e = .returned (.bool true) ∧ Below w.heap.size w w' := by
  have hs : s.size ≤ 9223372036854775807 := by unfold maxLen at hl; omega
  clear hl
  go_enter Try.func5, Try.ntmps5
  go_wp2_with fail
  refine (awake_any w).mono ?_
  rintro e w1 ⟨rfl, hb1⟩
  go_wp2_with fail
  refine (tokens_any s w1 hs).mono ?_
  rintro e w2 ⟨v, ts, c, a, rfl, hO, hL, -, hb2⟩
  obtain ⟨a1, c1, hv, -, -, -, -⟩ := hL.shape
  subst hv
  have G0 : Below w2.heap.size w2 (w2.alloc (.cells #[.int .i64 (c : Int), .int .i64 (a : Int)] 26 (0, 0))) := by go_grown
  have HB2 := hide ((hb1.step hb2 (Nat.le_refl _)).step G0 (Nat.le_refl _))
  have HL := hide (hL.stay G0)
  have HO := hide hO
  have hcnt := hO.count
  clear hL hO hb1 hb2 G0
  simp only [FV]
  by_cases k1 : c = 0
  · subst k1
    have hj2 : (jn (ts.map (·.x))).length ≤ 1000000 := by
      obtain ⟨q0, q1, -⟩ := HO.out.good
      have := q1.joined
      omega
    have HX0 : Hid (XS w (w2.alloc (.cells #[.int .i64 0, .int .i64 (a : Int)] 26 (0, 0))) (.slice a1 ts.length c1) (.slice none 0 0) ts ((ts.map (·.x)).take 0)) := ⟨HB2.out, HL.out, OL.nil _ _ _ _, fun c h => by cases h⟩
    simp only [show ((0 : Nat) : Int) = 0 from rfl] at *
    clear HL HB2
    go_wp2
    go_loopw [5, 6] (fun v5 v6 wr => ∃ k : Nat, v6 = .int .i64 (k : Int) ∧ k ≤ ts.length ∧ Hid (XS w wr (.slice a1 ts.length c1) v5 ts ((ts.map (·.x)).take k))) (fun _ v _ => ts.length - (intOf v).toNat)
    case atStart => exact ⟨0, rfl, Nat.zero_le _, HX0⟩
    case round =>
      rename World => wl
      clear HX0
      obtain ⟨k, rfl, hk, HX⟩ := hrel
      have hlk : ((ts.map (·.x)).take k).length = k := by rw [List.length_take, List.length_map]; omega
      obtain ⟨aT, cT, hv, -, -, -, -⟩ := HX.out.list.shape
      rw [hlk] at hv
      subst hv
      by_cases hlt : k < ts.length
      · have hltI : (k : Int) < (ts.length : Int) := by omega
        obtain ⟨g1, cap1, hv, hc1, hc2⟩ := OL.open HX.out.toks k hlt
        simp only [Value.slice.injEq] at hv
        obtain ⟨rfl, -, rfl⟩ := hv
        obtain ⟨t, ht⟩ : ∃ t, ts[k]? = some t := ⟨ts[k], List.getElem?_eq_getElem hlt⟩
        obtain ⟨x0, x1, x2⟩ := HX.out.toks.at k t ht
        have htk : (ts.map (·.x)).take (k + 1) = (ts.map (·.x)).take k ++ [t.x] := by rw [List.take_add_one, List.getElem?_map, ht]; rfl
        have HTK := hide htk
        clear ht htk hc1 hc2
        go_wp2_with (at_builtin; refine Stop.of ?_)
        show wpList _ _ _ _ _ _
        have hol3 : OL 1 9 (wl.alloc (.cells #[.string (tx t.x)] 9 (0, 0))) (.slice aT k cT) k (sC ((ts.map (·.x)).take k)) := by
          have hl := HX.out.list
          unfold SL at hl
          rw [hlk] at hl
          exact hl.stay fun b hb => Below.heap_alloc wl _ b (hl.lt hb)
        refine wpList_push rfl (.tmp 31) (.tmp 37) 35 rfl 1 9 _ 16 uStrs iStr1 (by decide) rfl (by decide) (.slice aT k cT) k (sC ((ts.map (·.x)).take k)) rfl [.string (tx t.x)] 9 hol3 (fun _ _ => rfl) 1 rfl rfl (by intro u hu; simp at hu; subst hu; rfl) (by omega) (sC ((ts.map (·.x)).take k ++ [t.x])) (fun i hi => sC_app.1 i (by rw [hlk]; exact hi)) (by have := sC_app (xs := (ts.map (·.x)).take k) (x := t.x); rw [hlk] at this; exact this.2) ?_
        intro v4 w4 hol4 hap4 hne4
        replace hap4 := hap4.of_alloc (fun b hb => OL.lt HX.out.list hb)
        have HX4 : Hid (XS w w4 (.slice (some ⟨g1, 0, none⟩) ts.length c1) v4 ts ((ts.map (·.x)).take (k + 1))) := by
          rw [HTK.out]; exact HX.out.push hap4 (by rw [hlk]; exact hol4)
        clear hol3 hol4 hap4 hne4 HX HTK x0 x1 x2
        go_wp2
        go_roundw
        case rel => exact ⟨k + 1, by go_num, by omega, HX4⟩
        case measure => simp [intOf]; omega
      · have hltI : ¬ (k : Int) < (ts.length : Int) := by omega
        obtain rfl : k = ts.length := by omega
        have HX9 : Hid (XS w wl (.slice a1 ts.length c1) (.slice aT ts.length cT) ts (ts.map (·.x))) := by
          have := HX.out
          rw [List.take_of_length_le (by simp)] at this
          exact this
        clear HX hlk
        have hxl : (ts.map (·.x)).length = ts.length := by simp
        go_wp2_with fail
        refine (join_any _ (ts.map (·.x)) wl HX9.out.list (by omega) hj2).mono ?_
        rintro e w3 ⟨vp, rfl, hP, hb3⟩
        rw [hxl] at hP
        obtain ⟨aP, cP, hv, -, -, -, -⟩ := hP.shape
        subst hv
        have HL3 := hide (HX9.out.toks.stay hb3)
        have HB3 := hide (HX9.out.bel.step hb3 (Nat.le_refl _))
        have HP3 := hide hP
        have hts := tx_size (jn (ts.map (·.x)))
        clear HX9 hb3 hP
        obtain ⟨X, hX⟩ : ∃ X, tx (jn (ts.map (·.x))) = X := ⟨_, rfl⟩
        rw [hX] at hts ⊢
        by_cases hbig : 65536 < (jn (ts.map (·.x))).length
        · rw [← hts] at hbig
          have hbI : (65536 : Int) < (X.size : Int) := by omega
          go_wp2
          go_ret
          exact ⟨rfl, HB3.out⟩
        · have hle6 : (jn (ts.map (·.x))).length ≤ 65536 := by omega
          rw [← hts] at hbig
          have hbI : ¬ (65536 : Int) < (X.size : Int) := by omega
          have HJO : Hid (∀ ts' c' a', Out (bs X) ts' c' a' → ts' = put 0 ts ∧ c' = 0) := by
            intro ts' c' a' h'
            rw [← hX, bs_tx] at h'
            exact out_join HO.out hle6 h'
          have hXs : X.size ≤ 9223372036854775807 := by omega
          clear hX hts hle6 hj2
          go_wp2_with fail
          refine (tokens_any X w3 hXs).mono ?_
          rintro e w4 ⟨v', ts', c', a', rfl, hO', hL', -, hb4⟩
          obtain ⟨rfl, rfl⟩ := HJO.out _ _ _ hO'
          obtain ⟨a2, c2, hv, -, -, -, -⟩ := hL'.shape
          have hpl := put_length ts 0
          rw [hpl] at hv
          subst hv
          simp only [FV, show ((0 : Nat) : Int) = 0 from rfl]
          have G4 : Below w4.heap.size w4 (w4.alloc (.cells #[.int .i64 0, .int .i64 (a' : Int)] 26 (0, 0))) := by go_grown
          have H5 : Hid (TL (w4.alloc (.cells #[.int .i64 0, .int .i64 (a' : Int)] 26 (0, 0))) (.slice a1 ts.length c1) ts ∧ TL (w4.alloc (.cells #[.int .i64 0, .int .i64 (a' : Int)] 26 (0, 0))) (.slice a2 ts.length c2) (put 0 ts) ∧ OL 1 3 (w4.alloc (.cells #[.int .i64 0, .int .i64 (a' : Int)] 26 (0, 0))) (.slice aP ts.length cP) ts.length (nC (pcs (ts.map (·.x)) ts.length)) ∧ Below w.heap.size w (w4.alloc (.cells #[.int .i64 0, .int .i64 (a' : Int)] 26 (0, 0)))) :=
            ⟨(HL3.out.stay hb4).stay G4, hL'.stay G4, (HP3.out.stay fun b hb => hb4.block b (HP3.out.lt hb)).stay fun b hb => G4.block b ((HP3.out.stay fun b hb => hb4.block b (HP3.out.lt hb)).lt hb), (HB3.out.step hb4 (Nat.le_refl _)).step G4 (Nat.le_refl _)⟩
          clear hL' hO' hb4 HL3 HP3 HB3 G4 HJO HO hpl hxl
          go_wp2
          go_loopw [11] (fun i wr => ∃ k : Nat, k ≤ ts.length ∧ i = .int .i64 k ∧ Hid (TL wr (.slice a1 ts.length c1) ts ∧ TL wr (.slice a2 ts.length c2) (put 0 ts) ∧ OL 1 3 wr (.slice aP ts.length cP) ts.length (nC (pcs (ts.map (·.x)) ts.length)) ∧ Below w.heap.size w wr)) (fun i _ => ts.length - (intOf i).toNat)
          case atStart => exact ⟨0, Nat.zero_le _, rfl, H5⟩
          case round =>
            rename World => wr
            clear H5
            obtain ⟨q, hq, rfl, H5⟩ := hrel
            by_cases hlt : q < ts.length
            · have hltI : (q : Int) < (ts.length : Int) := by omega
              have hml := put_length ts 0
              have K1 := H5.out.1
              have K2 : TL wr (.slice a2 (put 0 ts).length c2) (put 0 ts) := by rw [hml]; exact H5.out.2.1
              have K3 := H5.out.2.2.1
              obtain ⟨g1, cap1, hv, hd1, hd2⟩ := OL.open K1 q hlt
              simp only [Value.slice.injEq] at hv
              obtain ⟨rfl, -, rfl⟩ := hv
              obtain ⟨g2, cap2, hv, hd1, hd2⟩ := OL.open K2 q (by omega)
              simp only [Value.slice.injEq] at hv
              obtain ⟨rfl, -, rfl⟩ := hv
              obtain ⟨g3, cap3, hv, hd1, hd2⟩ := OL.open K3 q hlt
              simp only [Value.slice.injEq] at hv
              obtain ⟨rfl, -, rfl⟩ := hv
              obtain ⟨t, ht⟩ : ∃ t, ts[q]? = some t := ⟨ts[q], List.getElem?_eq_getElem hlt⟩
              obtain ⟨x0, x1, x2⟩ := K1.at q t ht
              obtain ⟨y0, y1, y2⟩ := K2.at q ⟨t.k, t.x, pc (ts.map (·.x)) q⟩ (by rw [put_at, ht]; simp)
              have z0 := K3.cell (i := q) (j := 0) hlt (by decide)
              have hpq : (pcs (ts.map (·.x)) ts.length).getD q 0 = pc (ts.map (·.x)) q := by simp [pcs, hlt]
              simp only [Nat.mul_one, Nat.add_zero, nC, List.getElem?_cons_zero, hpq] at z0
              simp only at y0 y1 y2
              generalize pc (ts.map (·.x)) q = P at y2 z0
              clear K1 K2 K3 ht hd1 hd2 hml hpq
              go_wp2
              go_region
              all_goals
                go_wp2
                go_roundw
                case rel => exact ⟨q + 1, by omega, by go_num, H5.out.1, H5.out.2.1, H5.out.2.2.1, H5.out.2.2.2.drew⟩
                case measure => simp [intOf]; omega
            · have hltI : ¬ (q : Int) < (ts.length : Int) := by omega
              go_wp2
              go_ret
              exact ⟨rfl, H5.out.2.2.2⟩
  · have k1I : ((c : Int) == 0) = false := by rw [beq_eq_false_iff_ne]; omega
    obtain rfl := HO.out.fault k1
    go_wp2
    go_ret
    exact ⟨by first | rfl | simp, HB2.out⟩
end Lex
end Go.Proofs.Ytdlkjafdnaadgaa
