/- The walk of suretylaw02.RatioSums: it answers true at every list of texts. -/
import Derived.Test.YtidpbdhhbeaijaaLst4JSums
import Derived.Test.YtidpbdhhbeaijaaL0JSums
import Derived.Test.YtidpbdhhbeaijaaSame2JSums
import Derived.Test.YtidpbdhhbeaijaaLstWJSums
import Derived.OpenShut
namespace Go.Proofs.Ytidpbdhhbeaijaa
open Go.RowKit

set_option maxRecDepth 20000 in
set_option maxHeartbeats 8000000 in
theorem ratioSums_any (ao : Option Addr) (n cap : Nat) (Sx : Nat → ByteArray) (w : World) (hS : Strs w ao n Sx) (hn' : n ≤ maxLen) :
    Calls Try.prog 7 #[.slice ao n cap] w fun e w' => e = .returned (.bool true) ∧ Below w.heap.size w w' := by
  have hn : (n : Int) ≤ 9223372036854775807 := by unfold maxLen at hn'; omega
  clear hn'
  go_enter Try.func7, Try.ntmps7
  go_wp2_with fail
  refine (awake2_any _).mono ?_
  rintro e w1 ⟨rfl, hbw⟩
  have hS1 := hS.below hbw
  clear hS
  go_wp2
  go_loopw [3, 4, 5] (fun v u i wr => ∃ k : Nat, ∃ zs xsA xsX, k ≤ n ∧ k ≤ 12 ∧ i = .int .i64 k ∧ Hid (zs.length = k) ∧ Lst4 27 w1.heap.size wr v k xsA ∧ Lst4 35 w1.heap.size wr u k xsX ∧ Els4 wr xsA zs ∧ ElsR4 wr xsX zs ∧ Below w1.heap.size w1 wr) (fun _ _ i _ => 12 - (intOf i).toNat)
  case atStart => exact ⟨0, [], [], [], Nat.zero_le _, Nat.zero_le _, rfl, rfl, Lst4.nil _ _ _, Lst4.nil _ _ _, Els4.nil _, ElsR4.nil _, Below.refl _ _⟩
  case round =>
    obtain ⟨k, zs, xsA, xsX, hk, hk', rfl, HL, hLA, hLX, hEA, hEX, hB⟩ := hrel
    by_cases h0 : k < n ∧ k < 12
    · obtain ⟨h0, h1⟩ := h0
      have hS2 := hS1.below hB
      rcases hS2 with hz | ⟨b, off, rfl, hcs⟩
      · omega
      obtain ⟨c0, hsz⟩ := hcs k h0
      obtain ⟨S, hSx⟩ : ∃ S, S = Sx k := ⟨_, rfl⟩
      rw [← hSx] at c0 hsz
      clear hcs hSx
      go_wp2_with fail
      refine (rat_any S _ hsz).mono ?_
      rintro e w2 ⟨z, x, a, m, c, x', a', m', c', y, d, l, f, y', d', l', f', rfl, kx, ky, hb2⟩
      have hn1 := below_new w2 (.cells #[.bool x, .slice a m c, .bool x', .slice a' m' c'] 27 (0, 0))
      have hn2 := below_new (w2.alloc (.cells #[.bool x, .slice a m c, .bool x', .slice a' m' c'] 27 (0, 0))) (.cells #[.bool y, .slice d l f, .bool y', .slice d' l' f'] 35 (0, 0))
      have hb3 := (hb2.step hn1 (Nat.le_refl _)).step hn2 (Nat.le_refl _)
      have B6 := (Blk.new w2 27 #[.bool x, .slice a m c, .bool x', .slice a' m' c']).stay hn2
      have B7 := Blk.new (w2.alloc (.cells #[.bool x, .slice a m c, .bool x', .slice a' m' c'] 27 (0, 0))) 35 #[.bool y, .slice d l f, .bool y', .slice d' l' f']
      simp only [World.size_alloc] at B7
      have hSS : SumS4 w1 k u3 u4 xsA xsX zs z w2.heap.size (w2.heap.size + 1) x a m c x' a' m' c' y d l f y' d' l' f' ((w2.alloc (.cells #[.bool x, .slice a m c, .bool x', .slice a' m' c'] 27 (0, 0))).alloc (.cells #[.bool y, .slice d l f, .bool y', .slice d' l' f'] 35 (0, 0))) :=
        ⟨B6, B7, hLA.below hb3, hLX.below hb3, hEA.keep (KeepI.below hb3), hEX.keep (KeepI.below hb3), (kx.below hn1).below hn2, (ky.below hn1).below hn2, hB.step hb3 (Nat.le_refl _),
          fun e => by have := (hLA.lt _ e).2; have := hb2.size; omega, fun e => by have := (hLX.lt _ e).2; have := hb2.size; omega⟩
      clear c0 hb2 hn1 hn2 hb3 B6 B7 kx ky hLA hLX hEA hEX hB
      go_wp2
      generalize ((w2.alloc (.cells #[.bool x, .slice a m c, .bool x', .slice a' m' c'] 27 (0, 0))).alloc (.cells #[.bool y, .slice d l f, .bool y', .slice d' l' f'] 35 (0, 0))) = W at hSS ⊢
      obtain ⟨⟨c60, c61, c62, c63, c70, c71, c72, c73⟩, -⟩ := hSS.all
      go_region_held3 (fun w' => (w'.cell? ⟨w2.heap.size, 0, none⟩ = some (.bool x) ∧ w'.cell? ⟨w2.heap.size, 1, none⟩ = some (.slice a m c) ∧ w'.cell? ⟨w2.heap.size, 2, none⟩ = some (.bool x') ∧ w'.cell? ⟨w2.heap.size, 3, none⟩ = some (.slice a' m' c') ∧ w'.cell? ⟨w2.heap.size + 1, 0, none⟩ = some (.bool y) ∧ w'.cell? ⟨w2.heap.size + 1, 1, none⟩ = some (.slice d l f) ∧ w'.cell? ⟨w2.heap.size + 1, 2, none⟩ = some (.bool y') ∧ w'.cell? ⟨w2.heap.size + 1, 3, none⟩ = some (.slice d' l' f')) ∧ SumS4 w1 k u3 u4 xsA xsX zs z w2.heap.size (w2.heap.size + 1) x a m c x' a' m' c' y d l f y' d' l' f' w')
        ((refine SumS4.all ?_; repeat' (first | assumption | refine SumS4.drew ?_ | refine SumS4.alloc ?_ _)))
        (first
          | (refine step_append_four (by rfl) (.tmp 32) (.tmp 34) 65 (by rfl) w1.heap.size 27 64 Try.underlying65 Try.info27 (by decide) _ k xsA (by rfl) (SumS4.lstA (show SumS4 w1 k u3 u4 xsA xsX zs z w2.heap.size (w2.heap.size + 1) x a m c x' a' m' c' y d l f y' d' l' f' _ from by repeat' (first | assumption | refine SumS4.drew ?_ | refine SumS4.alloc ?_ _))) x a m c x' a' m' c' _ (by rfl) (by first | exact Blk.new _ _ _ | exact (Blk.new _ _ _).alloc _ | (have hh := Blk.new (W.alloc (.cells #[.bool y, .slice d l f, .bool y', .slice d' l' f'] 35 (0, 0))) 27 #[.bool x, .slice a m c, .bool x', .slice a' m' c']; simp only [World.size_alloc] at hh; exact hh)) (by omega) (Below.size (SumS4.bel (show SumS4 w1 k u3 u4 xsA xsX zs z w2.heap.size (w2.heap.size + 1) x a m c x' a' m' c' y d l f y' d' l' f' _ from by repeat' (first | assumption | refine SumS4.drew ?_ | refine SumS4.alloc ?_ _)))) ?_; intro vA wA hLA hKA; have hSA : SumS4 w1 k u3 u4 xsA xsX zs z w2.heap.size (w2.heap.size + 1) x a m c x' a' m' c' y d l f y' d' l' f' wA := SumS4.appA (by repeat' (first | assumption | refine SumS4.drew ?_ | refine SumS4.alloc ?_ _)) hKA; (try (have hbX : Blk 35 wA (W.heap.size + 1) #[.bool y, .slice d l f, .bool y', .slice d' l' f'] := (by have hh := Blk.new (W.alloc (.cells #[.bool x, .slice a m c, .bool x', .slice a' m' c'] 27 (0, 0))) 35 #[.bool y, .slice d l f, .bool y', .slice d' l' f']; simp only [World.size_alloc] at hh; exact Blk.app4 hh.drew hKA (Lst4.blk hKA.2.2.2.1 hh.drew (by decide))))); (try (have hbX : Blk 35 wA W.heap.size #[.bool y, .slice d l f, .bool y', .slice d' l' f'] := Blk.app4 ((Blk.new W 35 #[.bool y, .slice d l f, .bool y', .slice d' l' f']).alloc (.cells #[.bool x, .slice a m c, .bool x', .slice a' m' c'] 27 (0, 0))).drew hKA (Lst4.blk hKA.2.2.2.1 ((Blk.new W 35 #[.bool y, .slice d l f, .bool y', .slice d' l' f']).alloc (.cells #[.bool x, .slice a m c, .bool x', .slice a' m' c'] 27 (0, 0))).drew (by decide)))))
          | (refine step_append_four (by rfl) (.tmp 36) (.tmp 38) 66 (by rfl) w1.heap.size 35 64 Try.underlying66 Try.info35 (by decide) _ k xsX (by rfl) (SumS4.lstX (show SumS4 w1 k u3 u4 xsA xsX zs z w2.heap.size (w2.heap.size + 1) x a m c x' a' m' c' y d l f y' d' l' f' _ from by repeat' (first | assumption | refine SumS4.drew ?_ | refine SumS4.alloc ?_ _))) y d l f y' d' l' f' _ (by rfl) (by first | assumption | exact Blk.new _ _ _) (by omega) (Below.size (SumS4.bel (show SumS4 w1 k u3 u4 xsA xsX zs z w2.heap.size (w2.heap.size + 1) x a m c x' a' m' c' y d l f y' d' l' f' _ from by repeat' (first | assumption | refine SumS4.drew ?_ | refine SumS4.alloc ?_ _)))) ?_; intro vX wX hLX hKX; have hSX : SumS4 w1 k u3 u4 xsA xsX zs z w2.heap.size (w2.heap.size + 1) x a m c x' a' m' c' y d l f y' d' l' f' wX := SumS4.appX (by repeat' (first | assumption | refine SumS4.drew ?_ | refine SumS4.alloc ?_ _)) hKX))
      all_goals
        have hA' : Lst4 27 w1.heap.size wX vA (k + 1) (xsA ++ [.bool x, .slice a m c, .bool x', .slice a' m' c']) := by
          first
          | exact hLA.app hKX (by decide)
          | exact (hLA.below (below_new wA _)).app hKX (by decide)
        clear hKX hKA hSA hLA c60 c61 c62 c63 c70 c71 c72 c73
        go_wp2
        go_roundw
        case rel =>
          refine ⟨k + 1, zs ++ [z], xsA ++ [.bool x, .slice a m c, .bool x', .slice a' m' c'], xsX ++ [.bool y, .slice d l f, .bool y', .slice d' l' f'], by omega, by omega, by go_num, ?_, hA', hLX, hSX.els.push ?_ hSX.numA, hSX.elsR.push ?_ hSX.numX, hSX.bel⟩
          · show _ = _
            rw [List.length_append, HL.out]; rfl
          · rw [HL.out]; exact hSX.lstA.1
          · rw [HL.out]; exact hSX.lstX.1
        case measure => simp [intOf]; omega
    · obtain ⟨ao1, cap1, rfl, hA⟩ := hLA.arrQ hEA HL.out
      obtain ⟨ao2, cap2, rfl, hX⟩ := hLX.arrR hEX HL.out
      replace hbw := hbw.step hB (Nat.le_refl _)
      have hcase : (k : Int) < n ∧ ¬ (k : Int) < 12 ∨ ¬ (k : Int) < n := by omega
      clear hLA hLX hEA hEX hB h0 hS1
      rcases hcase with ⟨h0, h1⟩ | h0
      all_goals
        go_wp2_with fail
        refine (qsum_any ao1 k cap1 zs _ HL.out (by omega) hA).mono ?_
        rintro e w2 ⟨i1, i2, i3, i4, i5, i6, i7, i8, rfl, k2, hb2⟩
        have hn1 := below_new w2 (.cells #[.bool i1, .slice i2 i3 i4, .bool i5, .slice i6 i7 i8] 27 (0, 0))
        have v2 := Blk.new w2 27 #[.bool i1, .slice i2 i3 i4, .bool i5, .slice i6 i7 i8]
        replace k2 := k2.below hn1
        replace hX := (hX.below hb2).below hn1
        replace hbw := (hbw.step hb2 (Nat.le_refl _)).step hn1 (Nat.le_refl _)
        clear hb2 hn1 hA
        go_wp2_with fail
        refine (rqsum_any ao2 k cap2 zs _ HL.out (by omega) hX).mono ?_
        rintro e w3 ⟨j1, j2, j3, j4, j5, j6, j7, j8, rfl, k3, hb3⟩
        have hn1 := below_new w3 (.cells #[.bool j1, .slice j2 j3 j4, .bool j5, .slice j6 j7 j8] 35 (0, 0))
        have B3 := Blk.new w3 35 #[.bool j1, .slice j2 j3 j4, .bool j5, .slice j6 j7 j8]
        replace k3 := k3.below hn1
        replace k2 := (k2.below hb3).below hn1
        replace v2 := (v2.stay hb3).stay hn1
        replace hbw := (hbw.step hb3 (Nat.le_refl _)).step hn1 (Nat.le_refl _)
        clear hb3 hn1 hX
        obtain ⟨p0, p1, p2, p3⟩ := v2.four
        obtain ⟨q0, q1, q2, q3⟩ := B3.four
        go_wp2_with fail
        refine (same2_yes _ _ (qsumE zs) (qsumZ zs) 400 _ k2.val k3.val (by decide)).mono ?_
        rintro e w4 ⟨rfl, hb4⟩
        go_wp2
        refine bodyPost_ret (v := .bool true) (by simp [results, Try.results7, go_sem]) rfl ?_
        exact ⟨rfl, hbw.step hb4 (Nat.le_refl _)⟩
end Go.Proofs.Ytidpbdhhbeaijaa
