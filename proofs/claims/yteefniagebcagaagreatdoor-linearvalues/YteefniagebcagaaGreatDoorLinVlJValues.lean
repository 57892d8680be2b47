/- Contract of suretylaw03's values; it proves no statement of the seat. -/
import Derived.Test.YteefniagebcagaaGreatDoorJoin23Values
import Derived.Test.YteefniagebcagaaGreatDoorSumsLJValues
import Derived.Deep.RegionHeld3
namespace Go.Proofs.YteefniagebcagaaGreatDoor
open Go.RowKit
set_option linter.unusedVariables false

/-- Texts in a row. -/
def SArr (w : World) (ao : Option Addr) (ss : List ByteArray) : Prop := ss = [] ∨ ∃ (g o : Nat), ao = some ⟨g, o, none⟩ ∧ ∀ i, i < ss.length → w.cell? ⟨g, o + i, none⟩ = some (.string (ss.getD i ⟨#[]⟩))
theorem SArr.below {w w' : World} {ao : Option Addr} {ss : List ByteArray} (h : SArr w ao ss) (hb : Below w.heap.size w w') : SArr w' ao ss := by
  rcases h with h | ⟨g, o, h1, h2⟩
  · exact Or.inl h
  · exact Or.inr ⟨g, o, h1, fun i hi => (hb.cell (World.block_lt_of_cell? w _ (h2 i hi))).trans (h2 i hi)⟩
theorem SArr.at {w : World} {ao : Option Addr} {ss : List ByteArray} (h : SArr w ao ss) (i : Nat) (hi : i < ss.length) : ∃ g o, ao = some ⟨g, o, none⟩ ∧ w.cell? ⟨g, o + i, none⟩ = some (.string (ss.getD i ⟨#[]⟩)) := by
  rcases h with h | ⟨g, o, h1, h2⟩
  · rw [h] at hi; simp at hi
  · exact ⟨g, o, h1, h2 i hi⟩
/-- The numbers of texts. -/
def valZ (ss : List ByteArray) : List Int := (ss.take 12).map fun s => pzd (cutS s)
def valK (ss : List ByteArray) (k : Nat) : List Int := (ss.take k).map fun s => pzd (cutS s)
theorem valK_step {ss : List ByteArray} {k : Nat} {S : ByteArray} (hk : k < ss.length) (hp : ss.getD k ⟨#[]⟩ = S) : valK ss (k + 1) = valK ss k ++ [pzd (cutS S)] := by
  unfold valK
  rw [List.take_succ_eq_append_getElem hk, List.map_append]
  rw [List.getD_eq_getElem?_getD, List.getElem?_eq_getElem hk] at hp
  simp at hp
  rw [hp]; rfl
theorem valK_length {ss : List ByteArray} {k : Nat} (hk : k ≤ ss.length) : (valK ss k).length = k := by
  unfold valK
  rw [List.length_map, List.length_take]; omega
set_option maxRecDepth 20000 in
set_option maxHeartbeats 8000000 in
theorem values_any (ao : Option Addr) (n cap : Nat) (ss : List ByteArray) (w : World) (hS : SArr w ao ss) (hl : ss.length = n) (hn' : n ≤ maxLen) :
    Calls Tryz.prog 22 #[.slice ao n cap] w fun e w' => ∃ a1 c1 a2 c2 k, e = .returned (.tuple #[.slice a1 k c1, .slice a2 k c2]) ∧ (valZ ss).length = k ∧ Arr w' a1 (valZ ss) ∧ ArrR w' a2 (valZ ss) ∧ Below w.heap.size w w' := by
  have hn : (n : Int) ≤ 9223372036854775807 := by unfold maxLen at hn'; omega
  have HS : Hid (SArr w ao ss) := hS
  have HLN : Hid (ss.length = n) := hl
  clear hn' hS hl
  go_enter Tryz.func22, Tryz.ntmps22
  go_wp2
  go_loopw [4, 5, 6] (fun v u i wr => ∃ k : Nat, ∃ xsA xsX, k ≤ n ∧ k ≤ 12 ∧ i = .int .i64 k ∧ Lst 31 w.heap.size wr v k xsA ∧ Lst 39 w.heap.size wr u k xsX ∧ Els wr xsA (valK ss k) ∧ ElsR wr xsX (valK ss k) ∧ Below w.heap.size w wr) (fun _ _ i _ => 12 - (intOf i).toNat)
  case atStart => exact ⟨0, [], [], Nat.zero_le _, Nat.zero_le _, rfl, Lst.nil _ _ _, Lst.nil _ _ _, Els.nil _, ElsR.nil _, Below.refl _ _⟩
  case round =>
    rename World => wl
    obtain ⟨k, xsA, xsX, hk, hk', rfl, hLA, hLX, hEA, hEX, hB⟩ := hrel
    have HVL : Hid ((valK ss k).length = k) := valK_length (by rw [HLN.out]; exact hk)
    by_cases h0 : k < n ∧ k < 12
    · obtain ⟨h0, h1⟩ := h0
      have h1i : (k : Int) < 12 := by omega
      obtain ⟨gE, oE, had, k1⟩ := HS.out.at k (by rw [HLN.out]; exact h0)
      subst had
      obtain ⟨S, hps⟩ : ∃ S, S = ss.getD k ⟨#[]⟩ := ⟨_, rfl⟩
      rw [← hps] at k1
      have HPV : Hid (ss.getD k ⟨#[]⟩ = S) := hps.symm
      clear hps
      have c0 := (hB.cell (p := ⟨gE, oE + k, none⟩) (World.block_lt_of_cell? w _ k1)).trans k1
      clear k1
      by_cases hT : 400 < S.size
      · have hT0 : (400 : Int) < S.size := by omega
        have hT1 : (400 : Int) ≤ S.size := by omega
        have hT2 : 400 ≤ S.size := by omega
        have HC : Hid (cutS S = S.extract 0 400) := if_pos hT
        clear hT
        obtain ⟨z, hz9⟩ : ∃ z, z = pzd (cutS S) := ⟨_, rfl⟩
        have HZ : Hid (pzd (cutS S) = z) := hz9.symm
        rw [HC.out] at hz9
        have hsz : (S.extract 0 400).size ≤ 10000 := by have := cutS_size S; rw [HC.out] at this; omega
        go_wp2_with fail
        refine (parse_h (S.extract 0 400) _ hsz).mono ?_
        rintro e w2 ⟨x, a, m, c, rfl, kx, hb2⟩
        rw [← hz9] at kx
        have hn1 := below_new w2 (.cells #[.bool x, .slice a m c] 31 (0, 0))
        have B6 := Blk.new w2 31 #[.bool x, .slice a m c]
        go_wp2_with fail
        refine (rparse_h (S.extract 0 400) _ hsz).mono ?_
        rintro e w3 ⟨y, d, m', f, rfl, ky, hb3⟩
        rw [← hz9] at ky
        have hn2 := below_new w3 (.cells #[.bool y, .slice d m' f] 39 (0, 0))
        have B7 := Blk.new w3 39 #[.bool y, .slice d m' f]
        have hb4 := hn1.step hb3 (Nat.le_refl _)
        replace B6 := (B6.stay hb3).stay hn2
        have hb5 := (hb2.step hb4 (Nat.le_refl _)).step hn2 (Nat.le_refl _)
        obtain ⟨b6, hb6⟩ : ∃ b, b = w2.heap.size := ⟨_, rfl⟩
        obtain ⟨b7, hb7⟩ : ∃ b, b = w3.heap.size := ⟨_, rfl⟩
        rw [← hb6] at B6 ⊢
        rw [← hb7] at B7
        have hSS : SumS w k u4 u5 xsA xsX (valK ss k) z b6 b7 x a m c y d m' f (w3.alloc (.cells #[.bool y, .slice d m' f] 39 (0, 0))) :=
          ⟨B6, B7, hLA.below hb5, hLX.below hb5, hEA.keep (KeepI.below hb5), hEX.keep (KeepI.below hb5), ((kx.below hn1).below hb3).below hn2, ky.below hn2, hB.step hb5 (Nat.le_refl _),
            fun e => by have := (hLA.lt _ e).2; have := hb2.size; omega, fun e => by have := (hLX.lt _ e).2; have := hb2.size; have := hb4.size; omega⟩
        clear c0 hb2 hn1 hn2 hb3 hb4 hb5 hb6 B6 B7 kx ky hLA hLX hEA hEX hB hz9
        go_wp2
        rw [← hb7]
        clear hb7
        generalize (w3.alloc (.cells #[.bool y, .slice d m' f] 39 (0, 0))) = W at hSS ⊢
        obtain ⟨⟨c60, c61, c70, c71⟩, -⟩ := hSS.all
        go_region_held3 (fun w' => (w'.cell? ⟨b6, 0, none⟩ = some (.bool x) ∧ w'.cell? ⟨b6, 1, none⟩ = some (.slice a m c) ∧ w'.cell? ⟨b7, 0, none⟩ = some (.bool y) ∧ w'.cell? ⟨b7, 1, none⟩ = some (.slice d m' f)) ∧ SumS w k u4 u5 xsA xsX (valK ss k) z b6 (b7) x a m c y d m' f w')
          ((refine SumS.all ?_; repeat' (first | assumption | refine SumS.drew ?_ | refine SumS.alloc ?_ _)))
          (first
            | (refine step_append_two (by rfl) (.tmp 41) (.tmp 43) 54 (by rfl) w.heap.size 31 32 Tryz.underlying54 Tryz.info31 (by decide) _ k xsA (by rfl) (SumS.lstA (show SumS w k u4 u5 xsA xsX (valK ss k) z b6 (b7) x a m c y d m' f _ from by repeat' (first | assumption | refine SumS.drew ?_ | refine SumS.alloc ?_ _))) x a m c _ (by rfl) (by first | exact Blk.new _ _ _ | exact (Blk.new _ _ _).alloc _ | (have hh := Blk.new (W.alloc (.cells #[.bool y, .slice d m' f] 39 (0, 0))) 31 #[.bool x, .slice a m c]; simp only [World.size_alloc] at hh; exact hh)) (by omega) (Below.size (SumS.bel (show SumS w k u4 u5 xsA xsX (valK ss k) z b6 (b7) x a m c y d m' f _ from by repeat' (first | assumption | refine SumS.drew ?_ | refine SumS.alloc ?_ _)))) ?_; intro vA wA hLA hKA; have hSA : SumS w k u4 u5 xsA xsX (valK ss k) z b6 (b7) x a m c y d m' f wA := SumS.appA (by repeat' (first | assumption | refine SumS.drew ?_ | refine SumS.alloc ?_ _)) hKA; (try (have hbX : Blk 39 wA (W.heap.size + 1) #[.bool y, .slice d m' f] := (by have hh := Blk.new (W.alloc (.cells #[.bool x, .slice a m c] 31 (0, 0))) 39 #[.bool y, .slice d m' f]; simp only [World.size_alloc] at hh; exact Blk.app hh.drew hKA (Lst.blk hKA.2.2.2.1 hh.drew (by decide))))); (try (have hbX : Blk 39 wA W.heap.size #[.bool y, .slice d m' f] := Blk.app ((Blk.new W 39 #[.bool y, .slice d m' f]).alloc (.cells #[.bool x, .slice a m c] 31 (0, 0))).drew hKA (Lst.blk hKA.2.2.2.1 ((Blk.new W 39 #[.bool y, .slice d m' f]).alloc (.cells #[.bool x, .slice a m c] 31 (0, 0))).drew (by decide)))))
            | (refine step_append_two (by rfl) (.tmp 45) (.tmp 47) 55 (by rfl) w.heap.size 39 32 Tryz.underlying55 Tryz.info39 (by decide) _ k xsX (by rfl) (SumS.lstX (show SumS w k u4 u5 xsA xsX (valK ss k) z b6 (b7) x a m c y d m' f _ from by repeat' (first | assumption | refine SumS.drew ?_ | refine SumS.alloc ?_ _))) y d m' f _ (by rfl) (by first | assumption | exact Blk.new _ _ _) (by omega) (Below.size (SumS.bel (show SumS w k u4 u5 xsA xsX (valK ss k) z b6 (b7) x a m c y d m' f _ from by repeat' (first | assumption | refine SumS.drew ?_ | refine SumS.alloc ?_ _)))) ?_; intro vX wX hLX hKX; have hSX : SumS w k u4 u5 xsA xsX (valK ss k) z b6 (b7) x a m c y d m' f wX := SumS.appX (by repeat' (first | assumption | refine SumS.drew ?_ | refine SumS.alloc ?_ _)) hKX))
        all_goals
          have hA' : Lst 31 w.heap.size wX vA (k + 1) (xsA ++ [.bool x, .slice a m c]) := by
            first
            | exact hLA.app hKX (by decide)
            | exact (hLA.below (below_new wA _)).app hKX (by decide)
          clear hKX hKA hSA hLA c60 c61 c70 c71
          go_wp2
          go_roundw
          case rel =>
            have HVS := valK_step (by rw [HLN.out]; exact h0) HPV.out
            rw [HZ.out] at HVS
            refine ⟨k + 1, xsA ++ [.bool x, .slice a m c], xsX ++ [.bool y, .slice d m' f], by omega, by omega, by go_num, hA', hLX, ?_, ?_, hSX.bel⟩
            · rw [HVS]; exact hSX.els.push (by rw [HVL.out]; exact hSX.lstA.1) hSX.numA
            · rw [HVS]; exact hSX.elsR.push (by rw [HVL.out]; exact hSX.lstX.1) hSX.numX
          case measure => simp [intOf]; omega
      · have hT0 : ¬ (400 : Int) < S.size := by omega
        have HC : Hid (cutS S = S) := if_neg hT
        clear hT
        obtain ⟨z, hz9⟩ : ∃ z, z = pzd (cutS S) := ⟨_, rfl⟩
        have HZ : Hid (pzd (cutS S) = z) := hz9.symm
        rw [HC.out] at hz9
        have hsz : S.size ≤ 10000 := by have := cutS_size S; rw [HC.out] at this; omega
        go_wp2_with fail
        refine (parse_h S _ hsz).mono ?_
        rintro e w2 ⟨x, a, m, c, rfl, kx, hb2⟩
        rw [← hz9] at kx
        have hn1 := below_new w2 (.cells #[.bool x, .slice a m c] 31 (0, 0))
        have B6 := Blk.new w2 31 #[.bool x, .slice a m c]
        go_wp2_with fail
        refine (rparse_h S _ hsz).mono ?_
        rintro e w3 ⟨y, d, m', f, rfl, ky, hb3⟩
        rw [← hz9] at ky
        have hn2 := below_new w3 (.cells #[.bool y, .slice d m' f] 39 (0, 0))
        have B7 := Blk.new w3 39 #[.bool y, .slice d m' f]
        have hb4 := hn1.step hb3 (Nat.le_refl _)
        replace B6 := (B6.stay hb3).stay hn2
        have hb5 := (hb2.step hb4 (Nat.le_refl _)).step hn2 (Nat.le_refl _)
        obtain ⟨b6, hb6⟩ : ∃ b, b = w2.heap.size := ⟨_, rfl⟩
        obtain ⟨b7, hb7⟩ : ∃ b, b = w3.heap.size := ⟨_, rfl⟩
        rw [← hb6] at B6 ⊢
        rw [← hb7] at B7
        have hSS : SumS w k u4 u5 xsA xsX (valK ss k) z b6 b7 x a m c y d m' f (w3.alloc (.cells #[.bool y, .slice d m' f] 39 (0, 0))) :=
          ⟨B6, B7, hLA.below hb5, hLX.below hb5, hEA.keep (KeepI.below hb5), hEX.keep (KeepI.below hb5), ((kx.below hn1).below hb3).below hn2, ky.below hn2, hB.step hb5 (Nat.le_refl _),
            fun e => by have := (hLA.lt _ e).2; have := hb2.size; omega, fun e => by have := (hLX.lt _ e).2; have := hb2.size; have := hb4.size; omega⟩
        clear c0 hb2 hn1 hn2 hb3 hb4 hb5 hb6 B6 B7 kx ky hLA hLX hEA hEX hB hz9
        go_wp2
        rw [← hb7]
        clear hb7
        generalize (w3.alloc (.cells #[.bool y, .slice d m' f] 39 (0, 0))) = W at hSS ⊢
        obtain ⟨⟨c60, c61, c70, c71⟩, -⟩ := hSS.all
        go_region_held3 (fun w' => (w'.cell? ⟨b6, 0, none⟩ = some (.bool x) ∧ w'.cell? ⟨b6, 1, none⟩ = some (.slice a m c) ∧ w'.cell? ⟨b7, 0, none⟩ = some (.bool y) ∧ w'.cell? ⟨b7, 1, none⟩ = some (.slice d m' f)) ∧ SumS w k u4 u5 xsA xsX (valK ss k) z b6 (b7) x a m c y d m' f w')
          ((refine SumS.all ?_; repeat' (first | assumption | refine SumS.drew ?_ | refine SumS.alloc ?_ _)))
          (first
            | (refine step_append_two (by rfl) (.tmp 41) (.tmp 43) 54 (by rfl) w.heap.size 31 32 Tryz.underlying54 Tryz.info31 (by decide) _ k xsA (by rfl) (SumS.lstA (show SumS w k u4 u5 xsA xsX (valK ss k) z b6 (b7) x a m c y d m' f _ from by repeat' (first | assumption | refine SumS.drew ?_ | refine SumS.alloc ?_ _))) x a m c _ (by rfl) (by first | exact Blk.new _ _ _ | exact (Blk.new _ _ _).alloc _ | (have hh := Blk.new (W.alloc (.cells #[.bool y, .slice d m' f] 39 (0, 0))) 31 #[.bool x, .slice a m c]; simp only [World.size_alloc] at hh; exact hh)) (by omega) (Below.size (SumS.bel (show SumS w k u4 u5 xsA xsX (valK ss k) z b6 (b7) x a m c y d m' f _ from by repeat' (first | assumption | refine SumS.drew ?_ | refine SumS.alloc ?_ _)))) ?_; intro vA wA hLA hKA; have hSA : SumS w k u4 u5 xsA xsX (valK ss k) z b6 (b7) x a m c y d m' f wA := SumS.appA (by repeat' (first | assumption | refine SumS.drew ?_ | refine SumS.alloc ?_ _)) hKA; (try (have hbX : Blk 39 wA (W.heap.size + 1) #[.bool y, .slice d m' f] := (by have hh := Blk.new (W.alloc (.cells #[.bool x, .slice a m c] 31 (0, 0))) 39 #[.bool y, .slice d m' f]; simp only [World.size_alloc] at hh; exact Blk.app hh.drew hKA (Lst.blk hKA.2.2.2.1 hh.drew (by decide))))); (try (have hbX : Blk 39 wA W.heap.size #[.bool y, .slice d m' f] := Blk.app ((Blk.new W 39 #[.bool y, .slice d m' f]).alloc (.cells #[.bool x, .slice a m c] 31 (0, 0))).drew hKA (Lst.blk hKA.2.2.2.1 ((Blk.new W 39 #[.bool y, .slice d m' f]).alloc (.cells #[.bool x, .slice a m c] 31 (0, 0))).drew (by decide)))))
            | (refine step_append_two (by rfl) (.tmp 45) (.tmp 47) 55 (by rfl) w.heap.size 39 32 Tryz.underlying55 Tryz.info39 (by decide) _ k xsX (by rfl) (SumS.lstX (show SumS w k u4 u5 xsA xsX (valK ss k) z b6 (b7) x a m c y d m' f _ from by repeat' (first | assumption | refine SumS.drew ?_ | refine SumS.alloc ?_ _))) y d m' f _ (by rfl) (by first | assumption | exact Blk.new _ _ _) (by omega) (Below.size (SumS.bel (show SumS w k u4 u5 xsA xsX (valK ss k) z b6 (b7) x a m c y d m' f _ from by repeat' (first | assumption | refine SumS.drew ?_ | refine SumS.alloc ?_ _)))) ?_; intro vX wX hLX hKX; have hSX : SumS w k u4 u5 xsA xsX (valK ss k) z b6 (b7) x a m c y d m' f wX := SumS.appX (by repeat' (first | assumption | refine SumS.drew ?_ | refine SumS.alloc ?_ _)) hKX))
        all_goals
          have hA' : Lst 31 w.heap.size wX vA (k + 1) (xsA ++ [.bool x, .slice a m c]) := by
            first
            | exact hLA.app hKX (by decide)
            | exact (hLA.below (below_new wA _)).app hKX (by decide)
          clear hKX hKA hSA hLA c60 c61 c70 c71
          go_wp2
          go_roundw
          case rel =>
            have HVS := valK_step (by rw [HLN.out]; exact h0) HPV.out
            rw [HZ.out] at HVS
            refine ⟨k + 1, xsA ++ [.bool x, .slice a m c], xsX ++ [.bool y, .slice d m' f], by omega, by omega, by go_num, hA', hLX, ?_, ?_, hSX.bel⟩
            · rw [HVS]; exact hSX.els.push (by rw [HVL.out]; exact hSX.lstA.1) hSX.numA
            · rw [HVS]; exact hSX.elsR.push (by rw [HVL.out]; exact hSX.lstX.1) hSX.numX
          case measure => simp [intOf]; omega
    · have HK : Hid (valK ss k = valZ ss) := by
        show _ = _
        unfold valK valZ
        by_cases h : k < n
        · have : k = 12 := by omega
          rw [this]
        · rw [List.take_of_length_le (by rw [HLN.out]; omega), List.take_of_length_le (by rw [HLN.out]; omega)]
      obtain ⟨ao1, cap1, rfl, hA⟩ := hLA.arrI hEA HVL.out
      obtain ⟨ao2, cap2, rfl, hX⟩ := hLX.arrR hEX HVL.out
      rw [HK.out] at hA hX
      have HVZ : Hid ((valZ ss).length = k) := by rw [← HK.out]; exact HVL.out
      have hcase : (k : Int) < n ∧ ¬ (k : Int) < 12 ∨ ¬ (k : Int) < n := by omega
      clear hLA hLX hEA hEX h0
      rcases hcase with ⟨h0, h1⟩ | h0
      all_goals
        go_wp2
        go_ret2
        exact ⟨ao1, cap1, ao2, cap2, k, rfl, HVZ.out, hA, hX, hB⟩
end Go.Proofs.YteefniagebcagaaGreatDoor
