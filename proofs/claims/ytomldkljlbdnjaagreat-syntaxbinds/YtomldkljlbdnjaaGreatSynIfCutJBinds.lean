/- The walk of SyntaxBinds. No statement of the seat is proved here. -/
import Derived.Test.YtomldkljlbdnjaaGreatSynIgCutJBinds
import Derived.Test.YtomldkljlbdnjaaGreatSynIeCutJBinds
import Derived.Test.YtomldkljlbdnjaaGreatSynGbCutJBinds
namespace Go.Proofs.YtomldkljlbdnjaaGreat
open Go Go.RowKit
set_option linter.unusedVariables false
set_option linter.unusedSimpArgs false
namespace Syn
open Lex (T TL tx bs tkC FV IsNm hide)
open Euf (OL)
/-- What SyntaxBinds comes to. -/
def BindsEnd (w : World) (e : Ending) (w' : World) : Prop := e = .returned (.bool true) ∧ Below w.heap.size w w'
set_option maxHeartbeats 8000000 in
set_option maxRecDepth 10000 in
theorem binds_any (a b c : ByteArray) (w : World) (ha : a.size ≤ 9223372036854775807) (hb : b.size ≤ 9223372036854775807) (hc : c.size ≤ 9223372036854775807) :
    Calls Tryz.prog 8 #[.string a, .string b, .string c] w fun e w' => BindsEnd w e w' := by
  have HAW := hide (awake11 w)
  have HNM := hide (And.intro (fun w => Lex.isName_any a w ha) (And.intro (fun w => Lex.isName_any b w hb) (fun w => Lex.isName_any c w hc)))
  clear ha hb hc
  go_enter Tryz.func8, Tryz.ntmps8
  go_wp2_with fail
  refine HAW.out.mono ?_
  rintro e w1 ⟨rfl, hb1⟩
  clear HAW
  obtain ⟨W, hW⟩ : ∃ W, W = w1.alloc (.cells #[.string a, .string b, .string c] 9 (0, 0)) := ⟨_, rfl⟩
  have hbW : Below w.heap.size w W := by rw [hW]; exact hb1.out.alloc hb1.out.size _
  have HB := hide hbW
  have kW : Blk 9 W w1.heap.size #[.string a, .string b, .string c] := by rw [hW]; exact Blk.new _ _ _
  obtain ⟨c0, c1, c2, f0, f1, f2⟩ := bk3 kW
  clear hbW hb1 kW
  go_wp2
  rw [← hW]
  clear hW
  go_loopw [8, 25] (fun v8 v25 wr => ∃ k : Nat, v25 = .int .i64 (k : Int) ∧ k ≤ 3 ∧ wr = W ∧ Hid ((0 < k → IsNm (bs a)) ∧ (1 < k → IsNm (bs b)) ∧ (2 < k → IsNm (bs c)))) (fun _ v _ => 3 - (intOf v).toNat)
  case atStart => exact ⟨0, rfl, by omega, rfl, (fun h => absurd h (by omega)), (fun h => absurd h (by omega)), fun h => absurd h (by omega)⟩
  case round =>
    rename World => wl
    obtain ⟨k, rfl, hk, rfl, HI⟩ := hrel
    obtain rfl | rfl | rfl | rfl : k = 0 ∨ k = 1 ∨ k = 2 ∨ k = 3 := by omega
    · by_cases hn : IsNm (bs a)
      · have HC := hide (HNM.out.1 wl)
        rw [decide_eq_true hn] at HC
        have HI2 : Hid ((0 < 1 → IsNm (bs a)) ∧ (1 < 1 → IsNm (bs b)) ∧ (2 < 1 → IsNm (bs c))) := by exact ⟨fun _ => hn, (fun h => absurd h (by omega)), fun h => absurd h (by omega)⟩
        clear HI hn
        go_wp2_with fail
        refine HC.out.mono ?_
        rintro e w' ⟨rfl, rfl⟩
        clear HC
        go_wp2
        go_roundw
        case rel => exact ⟨1, by go_num, by omega, trivial, HI2⟩
        case measure => decide
      · have HC := hide (HNM.out.1 wl)
        rw [decide_eq_false hn] at HC
        clear HI hn
        go_wp2_with fail
        refine HC.out.mono ?_
        rintro e w' ⟨rfl, rfl⟩
        clear HC c0 c1 c2 f0 f1 f2
        go_wp2
        go_ret
        exact ⟨rfl, HB.out⟩
    · by_cases hn : IsNm (bs b)
      · have HC := hide (HNM.out.2.1 wl)
        rw [decide_eq_true hn] at HC
        have HI2 : Hid ((0 < 2 → IsNm (bs a)) ∧ (1 < 2 → IsNm (bs b)) ∧ (2 < 2 → IsNm (bs c))) := by exact ⟨fun _ => HI.out.1 (by omega), fun _ => hn, fun h => absurd h (by omega)⟩
        clear HI hn
        go_wp2_with fail
        refine HC.out.mono ?_
        rintro e w' ⟨rfl, rfl⟩
        clear HC
        go_wp2
        go_roundw
        case rel => exact ⟨2, by go_num, by omega, trivial, HI2⟩
        case measure => decide
      · have HC := hide (HNM.out.2.1 wl)
        rw [decide_eq_false hn] at HC
        clear HI hn
        go_wp2_with fail
        refine HC.out.mono ?_
        rintro e w' ⟨rfl, rfl⟩
        clear HC c0 c1 c2 f0 f1 f2
        go_wp2
        go_ret
        exact ⟨rfl, HB.out⟩
    · by_cases hn : IsNm (bs c)
      · have HC := hide (HNM.out.2.2 wl)
        rw [decide_eq_true hn] at HC
        have HI2 : Hid ((0 < 3 → IsNm (bs a)) ∧ (1 < 3 → IsNm (bs b)) ∧ (2 < 3 → IsNm (bs c))) := by exact ⟨fun _ => HI.out.1 (by omega), fun _ => HI.out.2.1 (by omega), fun _ => hn⟩
        clear HI hn
        go_wp2_with fail
        refine HC.out.mono ?_
        rintro e w' ⟨rfl, rfl⟩
        clear HC
        go_wp2
        go_roundw
        case rel => exact ⟨3, by go_num, by omega, trivial, HI2⟩
        case measure => decide
      · have HC := hide (HNM.out.2.2 wl)
        rw [decide_eq_false hn] at HC
        clear HI hn
        go_wp2_with fail
        refine HC.out.mono ?_
        rintro e w' ⟨rfl, rfl⟩
        clear HC c0 c1 c2 f0 f1 f2
        go_wp2
        go_ret
        exact ⟨rfl, HB.out⟩
    · have HA := hide (HI.out.1 (by omega))
      have HBB := hide (HI.out.2.1 (by omega))
      have HCC := hide (HI.out.2.2 (by omega))
      have za : a.size ≤ 40 := by have := HA.out.2.1; rwa [Lex.bs_length] at this
      have zb : b.size ≤ 40 := by have := HBB.out.2.1; rwa [Lex.bs_length] at this
      have zc : c.size ≤ 40 := by have := HCC.out.2.1; rwa [Lex.bs_length] at this
      clear HI HNM c0 c1 c2 f0 f1 f2
      go_wp2_with fail
      obtain ⟨W2, hW2⟩ : ∃ W2, W2 = wl.alloc (.cells (bcs a b c) 58 (0, 0)) := ⟨_, rfl⟩
      have hb2 : Below wl.heap.size wl W2 := by rw [hW2]; go_grown
      have kB : Blk 58 W2 wl.heap.size (bcs a b c) := by rw [hW2]; exact Blk.new _ _ _
      have hlt2 : wl.heap.size < W2.heap.size := by rw [hW2]; simp
      have HB2 := hide (And.intro (HB.out.trans (hb2.mono HB.out.size)) (And.intro kB hlt2))
      have HSZ := hide (fun k => bx_size a b c za zb zc k)
      have HRD := hide (fun k (hk : k < 9) => bx_read HA.out HBB.out HCC.out k hk)
      have hj0 : Hid (Below W2.heap.size W2 W2) := hide (Below.refl _ _)
      unfold bcs bx at hW2
      simp only [] at hW2
      rw [← hW2]
      clear hW2 hb2 kB hlt2
      go_loopw [11, 12, 13, 14, 15, 176] (fun v11 v12 v13 v14 v15 v176 wr => ∃ k : Nat, v176 = .int .i64 (k : Int) ∧ k ≤ 9 ∧ Hid (Below W2.heap.size W2 wr)) (fun _ _ _ _ _ v _ => 9 - (intOf v).toNat)
      case atStart => exact ⟨0, rfl, by omega, hj0⟩
      case round =>
        rename World => wr
        clear hj0
        obtain ⟨k, rfl, hk9, HJ⟩ := hrel
        by_cases hlt : k < 9
        · have hltI : (k : Int) < 9 := by omega
          have kB : Blk 58 wr wl.heap.size (bcs a b c) := HB2.out.2.1.stay HJ.out
          obtain ⟨e0, e1⟩ := bcs_at a b c k hlt
          have x0 : wr.cell? ⟨wl.heap.size, k * 2, none⟩ = some (.string (bx a b c (2 * k))) := by rw [kB.cell]; exact e0
          have x1 : wr.cell? ⟨wl.heap.size, k * 2 + 1, none⟩ = some (.string (bx a b c (2 * k + 1))) := by rw [kB.cell]; exact e1
          have hblt := kB.lt
          obtain ⟨m, m', P0, P1, he, w1f, w2f⟩ := HRD.out k hlt
          have z0 := HSZ.out (2 * k)
          have z1 := HSZ.out (2 * k + 1)
          have HP0 := hide P0
          have HP1 := hide P1
          have HWF := hide (And.intro he (And.intro w1f w2f))
          clear kB e0 e1 P0 P1 he w1f w2f
          unfold pre suf at HP0 HP1
          generalize bx a b c (2 * k) = X0 at *
          generalize bx a b c (2 * k + 1) = X1 at *
          obtain ⟨V1, hV1⟩ : ∃ V1, V1 = wr.alloc (.cells #[.string X0, .string X1] 58 (0, 0)) := ⟨_, rfl⟩
          have hbV1 : Below wr.heap.size wr V1 := by rw [hV1]; go_grown
          have kS : Blk 58 V1 wr.heap.size #[.string X0, .string X1] := by rw [hV1]; exact Blk.new _ _ _
          have HV1 := hide (And.intro hbV1 kS)
          clear hbV1 kS
          go_wp2_with fail
          rw [← hV1]
          refine (HP0.out _).mono ?_
          rintro e w3 ⟨qA, cA, qB, cB, rfl, HX0⟩
          obtain ⟨s0, s1, t0, t1⟩ := bk2 (HV1.out.2.stay HX0.out.2)
          have hs3 : wr.heap.size < w3.heap.size := Nat.lt_of_lt_of_le HV1.out.2.lt HX0.out.2.size
          obtain ⟨V4, hV4⟩ : ∃ V4, V4 = (w3.alloc (.cells #[.slice qA 0 cA, .slice qB m.length cB] 26 (0, 0))).alloc (.cells #[.int .i64 0, .int .i64 0] 29 (0, 0)) := ⟨_, rfl⟩
          have hbV4 : Below w3.heap.size w3 V4 := by rw [hV4]; go_grown
          have kP : Blk 26 V4 w3.heap.size #[.slice qA 0 cA, .slice qB m.length cB] := by rw [hV4]; exact (Blk.new _ _ _).alloc _
          have kF : Blk 29 V4 (w3.heap.size + 1) #[.int .i64 0, .int .i64 0] := by rw [hV4]; exact blk_new1 _ _ _ _
          have HV4 := hide (And.intro hbV4 (And.intro kP kF))
          have H03 := hide (HV1.out.1.trans (HX0.out.2.mono HV1.out.1.size))
          clear HP0 hV1 hbV4 kP kF x0 x1
          simp only [FV]
          go_wp2_with fail
          rw [← hV4]
          refine (HP1.out _).mono ?_
          rintro e w5 ⟨qA', cA', qB', cB', rfl, HX1⟩
          obtain ⟨p0, p1, r0, r1⟩ := bk2 (HV4.out.2.1.stay HX1.out.2)
          obtain ⟨y0, y1, u0', u1'⟩ := bk2 (HV4.out.2.2.stay HX1.out.2)
          have hs5 : w3.heap.size + 1 < w5.heap.size := Nat.lt_of_lt_of_le HV4.out.2.2.lt HX1.out.2.size
          have hs5b : w3.heap.size < w5.heap.size := by omega
          have hs5c : ¬ w3.heap.size + 1 = w5.heap.size := by omega
          have hs5d : ¬ w3.heap.size = w5.heap.size := by omega
          obtain ⟨V6, hV6⟩ : ∃ V6, V6 = (w5.alloc (.cells #[.slice qA' 0 cA', .slice qB' m'.length cB'] 26 (0, 0))).alloc (.cells #[.int .i64 0, .int .i64 0] 29 (0, 0)) := ⟨_, rfl⟩
          have hbV6 : Below w5.heap.size w5 V6 := by rw [hV6]; go_grown
          have h35 : Below w3.heap.size w3 w5 := HV4.out.1.trans (HX1.out.2.mono HV4.out.1.size)
          have h36 : Below w3.heap.size w3 V6 := h35.trans (hbV6.mono h35.size)
          have HSM := hide (same_main V6 (qA := qA) (cA := cA) (qA' := qA') (cA' := cA') (HX0.out.1.stay (w' := V6) (G := fun _ => True) fun b _ kl => ⟨h36.block b kl, trivial⟩) (HX1.out.1.stay (w' := V6) (G := fun _ => True) fun b _ kl => ⟨hbV6.block b kl, trivial⟩) HWF.out.2.1 HWF.out.2.2 HWF.out.1)
          have H06 := hide (H03.out.trans (h36.mono H03.out.size))
          clear HP1 hV4 hbV6 h35 h36 HX0 HX1 HV4 HV1 HWF s0 s1 t0 t1
          simp only [FV]
          go_wp2_with fail
          rw [← hV6]
          refine HSM.out.mono ?_
          rintro e w7 ⟨rfl, hb7⟩
          have HF : Hid (Below W2.heap.size W2 w7) := by
            have := HJ.out
            have h67 := H06.out.trans (hb7.out.mono H06.out.size)
            exact (this.trans (h67.mono this.size) : Below W2.heap.size W2 w7)
          clear HSM hb7 hV6 H06 H03 p0 p1 r0 r1 y0 y1 u0' u1'
          go_wp2
          go_roundw
          case rel => exact ⟨k + 1, by go_num, by omega, HF⟩
          case measure => simp [intOf]; omega
        · have hltI : ¬ (k : Int) < 9 := by omega
          have HLS := hide (last_read HA.out HBB.out HCC.out (lst_text a b c) wr)
          have HF : Hid (Below w.heap.size w wr) := HB2.out.1.trans (HJ.out.mono HB2.out.1.size)
          have zA : (bs a).length = a.size := Lex.bs_length a
          have zB : (bs b).length = b.size := Lex.bs_length b
          rw [zA, zB] at HLS
          clear zA zB HRD HSZ HB2 HJ hk9
          unfold pre suf at HLS
          go_wp2_with fail
          refine HLS.out.mono ?_
          rintro e w8 ⟨rfl, hb8⟩
          have HG : Hid (Below w.heap.size w w8) := by exact HF.out.trans (hb8.out.mono HF.out.size)
          clear HLS HF hb8
          simp only [FV]
          go_wp2
          go_ret
          exact ⟨rfl, (HG.out.alloc HG.out.size _).alloc (by have := HG.out.size; simp; omega) _⟩
theorem syntaxBinds_any (a b c : ByteArray) (w : World) (ha : a.size ≤ 9223372036854775807) (hb : b.size ≤ 9223372036854775807) (hc : c.size ≤ 9223372036854775807) :
    Calls Tryz.prog 8 #[.string a, .string b, .string c] w fun e w' => e = .returned (.bool true) ∧ Below w.heap.size w w' := binds_any a b c w ha hb hc
end Syn
end Go.Proofs.YtomldkljlbdnjaaGreat
