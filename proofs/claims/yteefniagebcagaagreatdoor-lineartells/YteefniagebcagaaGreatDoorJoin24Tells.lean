/- Joined: LinRw, LinFw, SumsL, LinVl: words and contracts; no statement of the seat is proved here. -/
import Derived.Test.YteefniagebcagaaGreatDoorJoin23Tells
import Derived.Test.YteefniagebcagaaGreatDoorJoin19Tells
import Derived.Deep.RegionHeld3
/- Contract of suretylaw03's row; they prove no statement of the seat. -/
namespace Go.Proofs.YteefniagebcagaaGreatDoor
open Go.RowKit
set_option linter.unusedVariables false

/-- A text cut to what is tried. -/
def cutS (S : ByteArray) : ByteArray := if 400 < S.size then S.extract 0 400 else S
theorem cutS_size (S : ByteArray) : (cutS S).size ≤ 400 := by
  unfold cutS
  split
  · rw [ByteArray.size_extract]; omega
  · omega
/-- The cells of plain parts. -/
def cM : List (Int × ByteArray) → List Value
  | [] => []
  | p :: r => .int .i64 p.1 :: .string p.2 :: cM r
theorem cM_append (a b : List (Int × ByteArray)) : cM (a ++ b) = cM a ++ cM b := by
  induction a with
  | nil => rfl
  | cons p r ih => rw [List.cons_append, cM, cM, ih]; rfl
theorem cM_length (a : List (Int × ByteArray)) : (cM a).length = a.length * 2 := by
  induction a with
  | nil => rfl
  | cons p r ih => rw [cM, List.length_cons, List.length_cons, ih, List.length_cons]; omega
theorem cM_at : ∀ (a : List (Int × ByteArray)) (i : Nat), i < a.length → (cM a)[i * 2]? = some (.int .i64 (a.getD i (0, ⟨#[]⟩)).1) ∧ (cM a)[i * 2 + 1]? = some (.string (a.getD i (0, ⟨#[]⟩)).2)
  | [], i, h => by simp at h
  | p :: r, 0, _ => ⟨rfl, rfl⟩
  | p :: r, i + 1, h => by
    have := cM_at r i (by simpa using h)
    rw [show (i + 1) * 2 = i * 2 + 1 + 1 by omega, cM]
    simpa using this
theorem MArr.of {base : Nat} {w : World} {v : Value} {n : Nat} {ms : List (Int × ByteArray)} (h : LstG 2 103 base w v n (cM ms)) : ∃ ao cap, v = .slice ao n cap ∧ ms.length = n ∧ MArr w ao ms := by
  have hl : ms.length = n := by have := h.1; rw [cM_length] at this; omega
  subst hl
  rcases h.2 with ⟨rfl, h0⟩ | ⟨g, cap, cur, rfl, h1, h2, h3, h4, h5, h6, _⟩
  · exact ⟨none, 0, by rw [h0], rfl, Or.inl (List.eq_nil_of_length_eq_zero h0)⟩
  · refine ⟨_, cap, rfl, rfl, Or.inr ⟨g, 0, rfl, fun i hi => ?_⟩⟩
    obtain ⟨k1, k2⟩ := cM_at ms i hi
    obtain ⟨u1, c1, d1⟩ := h.cell (i * 2) (by omega)
    obtain ⟨u2, c2, d2⟩ := h.cell (i * 2 + 1) (by omega)
    rw [d1] at k1; rw [d2] at k2
    rw [Nat.zero_add, c1, c2]
    exact ⟨k1, k2⟩
theorem Tryz.und_monos : Tryz.prog.underlying 22 = some (.slice 103) := by kernel_rfl
theorem Tryz.info_mono : (Tryz.prog.info? 103).map (fun i => (i.zero, i.size, i.bytes)) = some (some (.agg #[.int .i64 0, .string ⟨#[]⟩]), 2, 24) := by kernel_rfl
end Go.Proofs.YteefniagebcagaaGreatDoor
/- Contract of suretylaw03's few; they prove no statement of the seat. -/
namespace Go.Proofs.YteefniagebcagaaGreatDoor
open Go.RowKit
set_option linter.unusedVariables false

/-- A variable that may be. -/
def cutV (v : Int) : Int := if 4096 ≤ v then 4095 else v
def fewK (ms : List (Int × ByteArray)) : List (Int × ByteArray) := ms.map fun p => (cutV p.1, cutS p.2)
def fewM (ms : List (Int × ByteArray)) : List (Int × ByteArray) := fewK (ms.take 12)
theorem fewK_take {ms : List (Int × ByteArray)} {k : Nat} {v : Int} {S : ByteArray} (hk : k < ms.length) (hp : ms.getD k (0, ⟨#[]⟩) = (v, S)) : cM (fewK (ms.take (k + 1))) = cM (fewK (ms.take k)) ++ [.int .i64 (cutV v), .string (cutS S)] := by
  unfold fewK
  rw [List.take_succ_eq_append_getElem hk, List.map_append, cM_append]
  rw [List.getD_eq_getElem?_getD, List.getElem?_eq_getElem hk] at hp
  simp at hp
  rw [hp]; rfl
theorem fewM_len (ms : List (Int × ByteArray)) : (fewM ms).length ≤ 12 := by unfold fewM fewK; rw [List.length_map, List.length_take]; omega
theorem fewM_size (ms : List (Int × ByteArray)) : ∀ p ∈ fewM ms, p.2.size ≤ 400 ∧ p.1 < 4096 := by
  intro p hp
  unfold fewM fewK at hp
  obtain ⟨q, _, rfl⟩ := List.mem_map.1 hp
  refine ⟨cutS_size q.2, ?_⟩
  unfold cutV
  simp only []
  split <;> omega

set_option maxRecDepth 20000 in
set_option maxHeartbeats 8000000 in
theorem few_any (aX : Option Addr) (nX cX : Nat) (ms : List (Int × ByteArray)) (w : World) (hm : MArr w aX ms) (hl : ms.length = nX) (hx : nX ≤ maxLen) :
    Calls Tryz.prog 10 #[.slice aX nX cX] w fun e w' => ∃ a n c, e = .returned (.slice a n c) ∧ (fewM ms).length = n ∧ MArr w' a (fewM ms) ∧ Below w.heap.size w w' := by
  have HM : Hid (MArr w aX ms) := hm
  have HLN : Hid (ms.length = nX) := hl
  have hn : (nX : Int) ≤ 9223372036854775807 := by unfold maxLen at hx; omega
  clear hm hl hx
  have hbw := Below.refl w.heap.size w
  go_enter Tryz.func10, Tryz.ntmps10
  go_wp2
  go_loopw [3, 4] (fun pl i wl => ∃ (k : Nat), k ≤ nX ∧ k ≤ 12 ∧ i = .int .i64 k ∧ LstG 2 103 w.heap.size wl pl k (cM (fewK (ms.take k))) ∧ Below w.heap.size w wl) (fun _ i _ => nX - (intOf i).toNat)
  case atStart => exact ⟨0, Nat.zero_le _, Nat.zero_le _, rfl, LstG.nil _ _ _ _, hbw⟩
  case round =>
    rename World => wl
    clear hbw
    obtain ⟨k, hk, hk2, hi9, hL, hbw⟩ := hrel
    subst hi9
    by_cases h0 : k < nX ∧ k < 12
    · obtain ⟨h0, h1⟩ := h0
      have h1i : (k : Int) < 12 := by omega
      obtain ⟨gE, oE, had, k1, k2⟩ := HM.out.at k (by rw [HLN.out]; exact h0)
      subst had
      obtain ⟨v, hpv⟩ : ∃ x9, x9 = (ms.getD k (0, ⟨#[]⟩)).1 := ⟨_, rfl⟩
      obtain ⟨T, hps⟩ : ∃ x9, x9 = (ms.getD k (0, ⟨#[]⟩)).2 := ⟨_, rfl⟩
      rw [← hpv] at k1
      rw [← hps] at k2
      have HPV : Hid (ms.getD k (0, ⟨#[]⟩) = (v, T)) := by show _ = _; rw [hpv, hps]
      clear hpv hps
      have A0 := (hbw.cell (p := ⟨gE, oE + k * 2, none⟩) (World.block_lt_of_cell? w _ k1)).trans k1
      have A1 := (hbw.cell (p := ⟨gE, oE + k * 2 + 1, none⟩) (World.block_lt_of_cell? w _ k2)).trans k2
      clear k1 k2
      have HTK := fewK_take (by rw [HLN.out]; exact h0) HPV.out
      by_cases hT : 400 < T.size
      · by_cases hV : 4096 ≤ v
        · have hT0 : (400 : Int) < T.size := by omega
          have hT1 : (400 : Int) ≤ T.size := by omega
          have hT2 : 400 ≤ T.size := by omega
          have HCT : Hid (cutS T = T.extract 0 400) := if_pos hT
          clear hT
          have HCV : Hid (cutV v = 4095) := if_pos hV
          rw [HCT.out, HCV.out] at HTK
          have hb3 := (below_new wl (.cells #[.int .i64 4095, .string (T.extract 0 400)] 103 (0, 0))).step (below_new (wl.alloc (.cells #[.int .i64 4095, .string (T.extract 0 400)] 103 (0, 0))) (.cells #[.int .i64 4095, .string (T.extract 0 400)] 103 (0, 0))) (Nat.le_refl _)
          have oB := Blk.new (wl.alloc (.cells #[.int .i64 4095, .string (T.extract 0 400)] 103 (0, 0))) 103 #[.int .i64 4095, .string (T.extract 0 400)]
          simp only [World.size_alloc] at oB
          have hL3 := hL.below hb3
          have hbw3 := hbw.step hb3 (Nat.le_refl _)
          go_wp2_with (at_builtin; refine wpList_append_g rfl _ _ 22 rfl 2 w.heap.size 103 (.agg #[.int .i64 0, .string ⟨#[]⟩]) 24 Tryz.und_monos Tryz.info_mono (by decide) rfl (by decide) (nuM _ _) (by decide) _ _ _ rfl hL3 ⟨wl.heap.size + 1, 0, none⟩ 1 1 [.int .i64 4095, .string (T.extract 0 400)] rfl rfl (by intro j u hj; match j, hj with | 0, hj => (simp at hj; subst hj; exact oB.cell 0) | 1, hj => (simp at hj; subst hj; exact oB.cell 1) | j + 2, hj => (simp at hj)) (by intro u hu; simp at hu; rcases hu with rfl | rfl <;> rfl) (nuM _ _) (Or.inl (by decide)) (by omega) hbw3.size ?_; intro v8 w8 hL8 hA8 hn8)
          go_roundw
          case rel => exact ⟨k + 1, by omega, by omega, by go_num, by rw [HTK]; exact hL8, hbw3.trans hA8.bel⟩
          case measure => simp [intOf]; omega
        · have hT0 : (400 : Int) < T.size := by omega
          have hT1 : (400 : Int) ≤ T.size := by omega
          have hT2 : 400 ≤ T.size := by omega
          have HCT : Hid (cutS T = T.extract 0 400) := if_pos hT
          clear hT
          have HCV : Hid (cutV v = v) := if_neg hV
          rw [HCT.out, HCV.out] at HTK
          have hb3 := (below_new wl (.cells #[.int .i64 v, .string (T.extract 0 400)] 103 (0, 0))).step (below_new (wl.alloc (.cells #[.int .i64 v, .string (T.extract 0 400)] 103 (0, 0))) (.cells #[.int .i64 v, .string (T.extract 0 400)] 103 (0, 0))) (Nat.le_refl _)
          have oB := Blk.new (wl.alloc (.cells #[.int .i64 v, .string (T.extract 0 400)] 103 (0, 0))) 103 #[.int .i64 v, .string (T.extract 0 400)]
          simp only [World.size_alloc] at oB
          have hL3 := hL.below hb3
          have hbw3 := hbw.step hb3 (Nat.le_refl _)
          go_wp2_with (at_builtin; refine wpList_append_g rfl _ _ 22 rfl 2 w.heap.size 103 (.agg #[.int .i64 0, .string ⟨#[]⟩]) 24 Tryz.und_monos Tryz.info_mono (by decide) rfl (by decide) (nuM _ _) (by decide) _ _ _ rfl hL3 ⟨wl.heap.size + 1, 0, none⟩ 1 1 [.int .i64 v, .string (T.extract 0 400)] rfl rfl (by intro j u hj; match j, hj with | 0, hj => (simp at hj; subst hj; exact oB.cell 0) | 1, hj => (simp at hj; subst hj; exact oB.cell 1) | j + 2, hj => (simp at hj)) (by intro u hu; simp at hu; rcases hu with rfl | rfl <;> rfl) (nuM _ _) (Or.inl (by decide)) (by omega) hbw3.size ?_; intro v8 w8 hL8 hA8 hn8)
          go_roundw
          case rel => exact ⟨k + 1, by omega, by omega, by go_num, by rw [HTK]; exact hL8, hbw3.trans hA8.bel⟩
          case measure => simp [intOf]; omega
      · by_cases hV : 4096 ≤ v
        · have hT0 : ¬ (400 : Int) < T.size := by omega
          have HCT : Hid (cutS T = T) := if_neg hT
          clear hT
          have HCV : Hid (cutV v = 4095) := if_pos hV
          rw [HCT.out, HCV.out] at HTK
          have hb3 := (below_new wl (.cells #[.int .i64 4095, .string T] 103 (0, 0))).step (below_new (wl.alloc (.cells #[.int .i64 4095, .string T] 103 (0, 0))) (.cells #[.int .i64 4095, .string T] 103 (0, 0))) (Nat.le_refl _)
          have oB := Blk.new (wl.alloc (.cells #[.int .i64 4095, .string T] 103 (0, 0))) 103 #[.int .i64 4095, .string T]
          simp only [World.size_alloc] at oB
          have hL3 := hL.below hb3
          have hbw3 := hbw.step hb3 (Nat.le_refl _)
          go_wp2_with (at_builtin; refine wpList_append_g rfl _ _ 22 rfl 2 w.heap.size 103 (.agg #[.int .i64 0, .string ⟨#[]⟩]) 24 Tryz.und_monos Tryz.info_mono (by decide) rfl (by decide) (nuM _ _) (by decide) _ _ _ rfl hL3 ⟨wl.heap.size + 1, 0, none⟩ 1 1 [.int .i64 4095, .string T] rfl rfl (by intro j u hj; match j, hj with | 0, hj => (simp at hj; subst hj; exact oB.cell 0) | 1, hj => (simp at hj; subst hj; exact oB.cell 1) | j + 2, hj => (simp at hj)) (by intro u hu; simp at hu; rcases hu with rfl | rfl <;> rfl) (nuM _ _) (Or.inl (by decide)) (by omega) hbw3.size ?_; intro v8 w8 hL8 hA8 hn8)
          go_roundw
          case rel => exact ⟨k + 1, by omega, by omega, by go_num, by rw [HTK]; exact hL8, hbw3.trans hA8.bel⟩
          case measure => simp [intOf]; omega
        · have hT0 : ¬ (400 : Int) < T.size := by omega
          have HCT : Hid (cutS T = T) := if_neg hT
          clear hT
          have HCV : Hid (cutV v = v) := if_neg hV
          rw [HCT.out, HCV.out] at HTK
          have hb3 := (below_new wl (.cells #[.int .i64 v, .string T] 103 (0, 0))).step (below_new (wl.alloc (.cells #[.int .i64 v, .string T] 103 (0, 0))) (.cells #[.int .i64 v, .string T] 103 (0, 0))) (Nat.le_refl _)
          have oB := Blk.new (wl.alloc (.cells #[.int .i64 v, .string T] 103 (0, 0))) 103 #[.int .i64 v, .string T]
          simp only [World.size_alloc] at oB
          have hL3 := hL.below hb3
          have hbw3 := hbw.step hb3 (Nat.le_refl _)
          go_wp2_with (at_builtin; refine wpList_append_g rfl _ _ 22 rfl 2 w.heap.size 103 (.agg #[.int .i64 0, .string ⟨#[]⟩]) 24 Tryz.und_monos Tryz.info_mono (by decide) rfl (by decide) (nuM _ _) (by decide) _ _ _ rfl hL3 ⟨wl.heap.size + 1, 0, none⟩ 1 1 [.int .i64 v, .string T] rfl rfl (by intro j u hj; match j, hj with | 0, hj => (simp at hj; subst hj; exact oB.cell 0) | 1, hj => (simp at hj; subst hj; exact oB.cell 1) | j + 2, hj => (simp at hj)) (by intro u hu; simp at hu; rcases hu with rfl | rfl <;> rfl) (nuM _ _) (Or.inl (by decide)) (by omega) hbw3.size ?_; intro v8 w8 hL8 hA8 hn8)
          go_roundw
          case rel => exact ⟨k + 1, by omega, by omega, by go_num, by rw [HTK]; exact hL8, hbw3.trans hA8.bel⟩
          case measure => simp [intOf]; omega
    · have HTK : Hid (ms.take k = ms.take 12) := by
        by_cases h : k < nX
        · have : k = 12 := by omega
          rw [this]; exact rfl
        · exact (List.take_of_length_le (by rw [HLN.out]; omega)).trans (List.take_of_length_le (by rw [HLN.out]; omega)).symm
      rw [HTK.out] at hL
      obtain ⟨aL, cL, rfl, hlen, hMA⟩ := MArr.of hL
      have hcase : (k : Int) < nX ∧ ¬ (k : Int) < 12 ∨ ¬ (k : Int) < nX := by omega
      clear h0 hL
      rcases hcase with ⟨h0, h1⟩ | h0
      all_goals
        go_wp2
        go_ret
        first | exact ⟨aL, k, cL, rfl, hlen, hMA, hbw⟩ | exact ⟨aL, k, ⟨cL, rfl⟩, hlen, hMA, hbw⟩

end Go.Proofs.YteefniagebcagaaGreatDoor
/- Two lists that grow side by side: the law of an append in a region that draws its order; no statement of the seat is proved here. -/
namespace Go.Proofs.YteefniagebcagaaGreatDoor
open Go.RowKit

section
variable {w1 : World} {k : Nat} {vA vX : Value} {xsA xsX : List Value} {zs : List Int} {z : Int} {b6 b7 : Nat} {x : Bool} {a : Option Addr} {m c : Nat} {y : Bool} {d : Option Addr} {m' f : Nat} {w w' : World}
end
end Go.Proofs.YteefniagebcagaaGreatDoor
/- Contract of suretylaw03's values; it proves no statement of the seat. -/
namespace Go.Proofs.YteefniagebcagaaGreatDoor
open Go.RowKit
set_option linter.unusedVariables false

end Go.Proofs.YteefniagebcagaaGreatDoor
