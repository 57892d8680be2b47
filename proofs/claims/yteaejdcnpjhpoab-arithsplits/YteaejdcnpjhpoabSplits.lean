/- The walk of suretylaw01.ArithSplits: it answers true at every list of texts and every machine number. -/
import Derived.Test.YteaejdcnpjhpoabLstW
import Derived.Test.YteaejdcnpjhpoabAwake
import Derived.OpenShut
namespace Go.Proofs.Yteaejdcnpjhpoab
open Go.RowKit

theorem Try.underlying44 : Try.prog.underlying 44 = some (.slice 25) := by kernel_rfl
theorem Try.info25 : (Try.prog.info? 25).map (fun i => (i.zero, i.size, i.bytes)) = some (some (.agg #[.bool false, .slice none 0 0]), 2, 32) := by kernel_rfl

set_option maxRecDepth 20000 in
set_option maxHeartbeats 8000000 in
theorem splits_out (ao : Option Addr) (n cap : Nat) (cut : Int) (w : World) (hn : (n : Int) ≤ 9223372036854775807) (h : cut < 0 ∨ (n : Int) < cut ∨ 40 < n) :
    Calls Try.prog 7 #[.slice ao n cap, .int .i64 cut] w fun e w' => e = .returned (.bool true) ∧ Below w.heap.size w w' := by
  go_enter Try.func7, Try.ntmps7
  go_wp2_with fail
  refine (awake_any _).mono ?_
  rintro e w1 ⟨rfl, hbw⟩
  by_cases h1 : cut < 0
  · have g1 : decide (cut < 0) = true := decide_eq_true h1
    clear h h1
    go_wp2
    go_ret
    exact ⟨rfl, hbw⟩
  · have g1 : decide (cut < 0) = false := decide_eq_false h1
    by_cases h2 : (n : Int) < cut
    · have g2 : decide ((n : Int) < cut) = true := decide_eq_true h2
      clear h h1 h2
      go_wp2
      go_ret
      exact ⟨rfl, hbw⟩
    · have g2 : decide ((n : Int) < cut) = false := decide_eq_false h2
      have g3 : decide (40 < (n : Int)) = true := decide_eq_true (by omega)
      clear h h1 h2
      go_wp2
      go_ret
      exact ⟨rfl, hbw⟩

set_option maxRecDepth 20000 in
set_option maxHeartbeats 8000000 in
theorem splits_in (ao : Option Addr) (n cap cut : Nat) (Sx : Nat → ByteArray) (w : World) (hS : Strs w ao n Sx) (hn : n ≤ 40) (hc : cut ≤ n) :
    Calls Try.prog 7 #[.slice ao n cap, .int .i64 cut] w fun e w' => e = .returned (.bool true) ∧ Below w.heap.size w w' := by
  have g1 : decide ((cut : Int) < 0) = false := decide_eq_false (by omega)
  have g2 : decide (n < cut) = false := decide_eq_false (by omega)
  have g3 : decide (40 < (n : Int)) = false := decide_eq_false (by omega)
  go_enter Try.func7, Try.ntmps7
  go_wp2_with fail
  refine (awake_any _).mono ?_
  rintro e w1 ⟨rfl, hbw⟩
  have hS1 := hS.below hbw
  clear hS
  go_wp2
  go_loopw [5, 6] (fun v i wr => ∃ k : Nat, ∃ zs xs, k ≤ n ∧ i = .int .i64 k ∧ Hid (zs.length = k) ∧ Lst 25 w1.heap.size wr v k xs ∧ Els wr xs zs ∧ Below w1.heap.size w1 wr) (fun _ i _ => n - (intOf i).toNat)
  case atStart => exact ⟨0, [], [], Nat.zero_le _, rfl, rfl, Lst.nil _ _ _, Els.nil _, Below.refl _ _⟩
  case round =>
    obtain ⟨k, zs, xs, hk, rfl, HL, hL, hE, hB⟩ := hrel
    by_cases h0 : k < n
    · have hS2 := hS1.below hB
      rcases hS2 with hz | ⟨b, off, rfl, hcs⟩
      · omega
      obtain ⟨c0, hsz⟩ := hcs k h0
      obtain ⟨S, hSx⟩ : ∃ S, S = Sx k := ⟨_, rfl⟩
      rw [← hSx] at c0 hsz
      clear hcs hSx
      go_wp2_with fail
      refine (num_h S _ hsz).mono ?_
      rintro e w2 ⟨z, x, a, m, c, y, d, m', f, rfl, kx, -, hb2⟩
      have hn1 := below_new w2 (.cells #[.bool x, .slice a m c] 25 (0, 0))
      have hn2 := below_new (w2.alloc (.cells #[.bool x, .slice a m c] 25 (0, 0))) (.cells #[.bool y, .slice d m' f] 28 (0, 0))
      have hb3 := (hb2.step hn1 (Nat.le_refl _)).step hn2 (Nat.le_refl _)
      have hL3 := hL.below hb3
      have hE3 := hE.keep (KeepI.below hb3)
      have hB3 := hB.step hb3 (Nat.le_refl _)
      have kx3 := (kx.below hn1).below hn2
      have hbase := hB3.size
      clear c0 hb2 hn1 hn2 hb3
      go_wp2_with (at_builtin; refine wpList_append_two rfl (.tmp 46) (.tmp 48) 44 rfl w1.heap.size 25 32 Try.underlying44 Try.info25 (by decide) _ k xs rfl hL3 x a m c _ rfl (by simp) (by omega) hbase ?_; intro v' w4 hL4 hblk4 hK4 hbel4)
      go_roundw
      case rel =>
        refine ⟨k + 1, zs ++ [z], xs ++ [.bool x, .slice a m c], by omega, by go_num, ?_, hL4, (hE3.keep hK4).push ?_ (kx3.keepI hK4), hB3.trans hbel4⟩
        · show _ = _
          rw [List.length_append, HL.out]; rfl
        · rw [HL.out]; exact hL.1
      case measure => simp [intOf]; omega
    · have hkn : k = n := by omega
      subst hkn
      replace hbw := hbw.step hB (Nat.le_refl _)
      rcases hL.arr hE HL.out with ⟨rfl, rfl⟩ | ⟨g, cp, rfl, l1, l2, hA⟩
      · obtain rfl : cut = 0 := by omega
        have hA : ∀ W, Arr W none [] := fun _ => Or.inl rfl
        have f1 : sumE [] = 0 := rfl
        have f4 : ec (sumZ [] + sumZ []) = 0 := ec_of (by show (0 : Nat) < lim; exact lim_pos)
        have HC : Hid ((sumZ [] - hz (sumZ [] + sumZ [])).sign = 0) := by
          show _ = _
          rw [hz_of (ec_zero f4)]; rfl
        clear hL hE hB hS1 h0 hc hn
        go_wp2_with fail
        refine (sum_any _ 0 _ [] _ rfl (by decide) (hA _)).mono ?_
        rintro e w2 ⟨s2, a2, m2, c2, rfl, k2, hb2⟩
        have hn1 := below_new w2 (.cells #[.bool s2, .slice a2 m2 c2] 25 (0, 0))
        have v2 := VI.new k2
        replace hbw := (hbw.step hb2 (Nat.le_refl _)).step hn1 (Nat.le_refl _)
        clear k2 hb2 hn1
        go_wp2_with fail
        refine (sum_any _ 0 _ [] _ rfl (by decide) (hA _)).mono ?_
        rintro e w3 ⟨s3, a3, m3, c3, rfl, k3, hb3⟩
        have hn1 := below_new w3 (.cells #[.bool s3, .slice a3 m3 c3] 25 (0, 0))
        have v3 := VI.new k3
        replace v2 := (v2.stay hb3).stay hn1
        replace hbw := (hbw.step hb3 (Nat.le_refl _)).step hn1 (Nat.le_refl _)
        clear k3 hb3 hn1
        go_wp2_with fail
        refine (sum_any _ 0 _ [] _ rfl (by decide) (hA _)).mono ?_
        rintro e w4 ⟨s4, a4, m4, c4, rfl, k4, hb4⟩
        have hn1 := below_new w4 (.cells #[.bool s4, .slice a4 m4 c4] 25 (0, 0))
        have v4 := VI.new k4
        replace v3 := (v3.stay hb4).stay hn1
        replace v2 := (v2.stay hb4).stay hn1
        replace hbw := (hbw.step hb4 (Nat.le_refl _)).step hn1 (Nat.le_refl _)
        clear k4 hb4 hn1 hA
        obtain ⟨p0, p1⟩ := v3.cells
        obtain ⟨q0, q1⟩ := v4.cells
        go_wp2_with fail
        refine (add_h _ _ (sumZ []) (sumZ []) _ v3.int v4.int).mono ?_
        rintro e w5 ⟨s5, a5, m5, c5, rfl, k5, hb5⟩
        have hn1 := below_new w5 (.cells #[.bool s5, .slice a5 m5 c5] 25 (0, 0))
        have v5 := VI.new k5
        replace v2 := (v2.stay hb5).stay hn1
        replace hbw := (hbw.step hb5 (Nat.le_refl _)).step hn1 (Nat.le_refl _)
        clear k5 hb5 hn1 v3 v4 p0 p1 q0 q1
        obtain ⟨p0, p1⟩ := v2.cells
        obtain ⟨q0, q1⟩ := v5.cells
        go_wp2_with fail
        refine (cmp_h _ _ _ _ 0 _ v2.int v5.int HC.out).mono ?_
        rintro e w6 ⟨rfl, hb6⟩
        go_wp2
        go_ret
        exact ⟨rfl, hbw.step hb6 (Nat.le_refl _)⟩
      · clear hL hE hB hS1 h0
        go_wp2_with fail
        refine (sum_any _ k _ zs _ HL.out (by omega) hA).mono ?_
        rintro e w2 ⟨s2, a2, m2, c2, rfl, k2, hb2⟩
        have hn1 := below_new w2 (.cells #[.bool s2, .slice a2 m2 c2] 25 (0, 0))
        have v2 := VI.new k2
        replace hA := (hA.below hb2).below hn1
        replace hbw := (hbw.step hb2 (Nat.le_refl _)).step hn1 (Nat.le_refl _)
        clear k2 hb2 hn1
        go_wp2_with fail
        refine (sum_any _ cut _ (zs.take cut) _ (by rw [List.length_take, HL.out]; omega) (by omega) (hA.take cut)).mono ?_
        rintro e w3 ⟨s3, a3, m3, c3, rfl, k3, hb3⟩
        have hn1 := below_new w3 (.cells #[.bool s3, .slice a3 m3 c3] 25 (0, 0))
        have v3 := VI.new k3
        replace hA := (hA.below hb3).below hn1
        replace v2 := (v2.stay hb3).stay hn1
        replace hbw := (hbw.step hb3 (Nat.le_refl _)).step hn1 (Nat.le_refl _)
        clear k3 hb3 hn1
        go_wp2_with fail
        all_goals
          refine (sum_any _ (k - cut) _ (zs.drop cut) _ (by rw [List.length_drop, HL.out]) (by omega) (by first | exact (by simpa using hA.drop cut) | exact Or.inl (List.drop_eq_nil_of_le (by rw [HL.out]; omega)))).mono ?_
          rintro e w4 ⟨s4, a4, m4, c4, rfl, k4, hb4⟩
          have hn1 := below_new w4 (.cells #[.bool s4, .slice a4 m4 c4] 25 (0, 0))
          have v4 := VI.new k4
          replace v3 := (v3.stay hb4).stay hn1
          replace v2 := (v2.stay hb4).stay hn1
          replace hbw := (hbw.step hb4 (Nat.le_refl _)).step hn1 (Nat.le_refl _)
          clear k4 hb4 hn1 hA
          obtain ⟨p0, p1⟩ := v3.cells
          obtain ⟨q0, q1⟩ := v4.cells
          go_wp2_with fail
          refine (add_h _ _ (sumZ (zs.take cut)) (sumZ (zs.drop cut)) _ v3.int v4.int).mono ?_
          rintro e w5 ⟨s5, a5, m5, c5, rfl, k5, hb5⟩
          have hn1 := below_new w5 (.cells #[.bool s5, .slice a5 m5 c5] 25 (0, 0))
          have v5 := VI.new k5
          replace v2 := (v2.stay hb5).stay hn1
          replace hbw := (hbw.step hb5 (Nat.le_refl _)).step hn1 (Nat.le_refl _)
          clear k5 hb5 hn1 v3 v4 p0 p1 q0 q1
          obtain ⟨p0, p1⟩ := v2.cells
          obtain ⟨q0, q1⟩ := v5.cells
          by_cases e1 : sumE zs = 0
          · have f1 : sumE zs = 0 := e1
            by_cases e2 : sumE (zs.take cut) = 0
            · have f2 : sumE (zs.take cut) = 0 := e2
              by_cases e3 : sumE (zs.drop cut) = 0
              · have f3 : sumE (zs.drop cut) = 0 := e3
                by_cases e4 : ec (sumZ (zs.take cut) + sumZ (zs.drop cut)) = 0
                · have HC : Hid ((sumZ zs - hz (sumZ (zs.take cut) + sumZ (zs.drop cut))).sign = 0) := by
                    show _ = _
                    rw [hz_of (ec_zero e4), sumZ_parts e1 e2 e3, Int.sub_self]; rfl
                  have f4 : ec (sumZ (zs.take cut) + sumZ (zs.drop cut)) = 0 := e4
                  clear e1 e2 e3 e4
                  go_wp2_with fail
                  refine (cmp_h _ _ _ _ 0 _ v2.int v5.int HC.out).mono ?_
                  rintro e w6 ⟨rfl, hb6⟩
                  go_wp2
                  go_ret
                  exact ⟨rfl, hbw.step hb6 (Nat.le_refl _)⟩
                · have f4 : ec (sumZ (zs.take cut) + sumZ (zs.drop cut)) = 11 := ec_not (fun h => e4 (ec_of h))
                  clear e1 e2 e3 e4
                  go_wp2
                  go_ret
                  exact ⟨rfl, hbw⟩
              · have f3 : sumE (zs.drop cut) = 11 := sumE_other e3
                clear e1 e2 e3
                go_wp2
                go_ret
                exact ⟨rfl, hbw⟩
            · have f2 : sumE (zs.take cut) = 11 := sumE_other e2
              clear e1 e2
              go_wp2
              go_ret
              exact ⟨rfl, hbw⟩
          · have f1 : sumE zs = 11 := sumE_other e1
            clear e1
            go_wp2
            go_ret
            exact ⟨rfl, hbw⟩

theorem arithSplits_any (ao : Option Addr) (n cap : Nat) (Sx : Nat → ByteArray) (cut : Int) (w : World) (hS : Strs w ao n Sx) (hn : n ≤ maxLen) (hw : (Lit.int .i64 cut).wf = true) :
    Calls Try.prog 7 #[.slice ao n cap, .int .i64 cut] w fun e w' => e = .returned (.bool true) ∧ Below w.heap.size w w' := by
  have hb := bounds_i64 hw
  by_cases h : cut < 0 ∨ (n : Int) < cut ∨ 40 < n
  · exact splits_out ao n cap cut w (by unfold maxLen at hn; omega) h
  · obtain ⟨c, rfl⟩ := Int.eq_ofNat_of_zero_le (show 0 ≤ cut by omega)
    exact splits_in ao n cap c Sx w hS (by omega) (by omega)
end Go.Proofs.Yteaejdcnpjhpoab
