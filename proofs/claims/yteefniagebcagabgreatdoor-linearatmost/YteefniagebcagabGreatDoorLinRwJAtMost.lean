/- Contract of suretylaw03's row; they prove no statement of the seat. -/
import Derived.Test.YteefniagebcagabGreatDoorLinAwJAtMost
namespace Go.Proofs.YteefniagebcagabGreatDoor
open Go.RowKit
set_option linter.unusedVariables false

/-- A text cut to what is tried. -/
def cutS (S : ByteArray) : ByteArray := if 400 < S.size then S.extract 0 400 else S
theorem cutS_size (S : ByteArray) : (cutS S).size ≤ 400 := by
  unfold cutS
  split
  · rw [ByteArray.size_extract]; omega
  · omega
def cutM (ms : List (Int × ByteArray)) : List (Int × ByteArray) := ms.map fun p => (p.1, cutS p.2)
/-- The cells of plain parts. -/
def cM : List (Int × ByteArray) → List Value
  | [] => []
  | p :: r => .int .i64 p.1 :: .string p.2 :: cM r
theorem cM_append (a b : List (Int × ByteArray)) : cM (a ++ b) = cM a ++ cM b := by
  induction a with
  | nil => rfl
  | cons p r ih => rw [List.cons_append, cM, cM, ih]; rfl
theorem cM_length (a : List (Int × ByteArray)) : (cM a).length = a.length * 2 := by
  induction a with
  | nil => rfl
  | cons p r ih => rw [cM, List.length_cons, List.length_cons, ih, List.length_cons]; omega
theorem cM_at : ∀ (a : List (Int × ByteArray)) (i : Nat), i < a.length → (cM a)[i * 2]? = some (.int .i64 (a.getD i (0, ⟨#[]⟩)).1) ∧ (cM a)[i * 2 + 1]? = some (.string (a.getD i (0, ⟨#[]⟩)).2)
  | [], i, h => by simp at h
  | p :: r, 0, _ => ⟨rfl, rfl⟩
  | p :: r, i + 1, h => by
    have := cM_at r i (by simpa using h)
    rw [show (i + 1) * 2 = i * 2 + 1 + 1 by omega, cM]
    simpa using this
theorem MArr.of {base : Nat} {w : World} {v : Value} {n : Nat} {ms : List (Int × ByteArray)} (h : LstG 2 67 base w v n (cM ms)) : ∃ ao cap, v = .slice ao n cap ∧ ms.length = n ∧ MArr w ao ms := by
  have hl : ms.length = n := by have := h.1; rw [cM_length] at this; omega
  subst hl
  rcases h.2 with ⟨rfl, h0⟩ | ⟨g, cap, cur, rfl, h1, h2, h3, h4, h5, h6, _⟩
  · exact ⟨none, 0, by rw [h0], rfl, Or.inl (List.eq_nil_of_length_eq_zero h0)⟩
  · refine ⟨_, cap, rfl, rfl, Or.inr ⟨g, 0, rfl, fun i hi => ?_⟩⟩
    obtain ⟨k1, k2⟩ := cM_at ms i hi
    obtain ⟨u1, c1, d1⟩ := h.cell (i * 2) (by omega)
    obtain ⟨u2, c2, d2⟩ := h.cell (i * 2 + 1) (by omega)
    rw [d1] at k1; rw [d2] at k2
    rw [Nat.zero_add, c1, c2]
    exact ⟨k1, k2⟩
theorem cutM_take {ms : List (Int × ByteArray)} {k : Nat} {v : Int} {S : ByteArray} (hk : k < ms.length) (hp : ms.getD k (0, ⟨#[]⟩) = (v, S)) : cM (cutM (ms.take (k + 1))) = cM (cutM (ms.take k)) ++ [.int .i64 v, .string (cutS S)] := by
  unfold cutM
  rw [List.take_succ_eq_append_getElem hk, List.map_append, cM_append]
  rw [List.getD_eq_getElem?_getD, List.getElem?_eq_getElem hk] at hp
  simp at hp
  rw [hp]; rfl
theorem Tryz.und_monos : Tryz.prog.underlying 22 = some (.slice 67) := by kernel_rfl
theorem Tryz.info_mono : (Tryz.prog.info? 67).map (fun i => (i.zero, i.size, i.bytes)) = some (some (.agg #[.int .i64 0, .string ⟨#[]⟩]), 2, 24) := by kernel_rfl
/-- A row of the law, short enough to be tried. -/
def rowM (ms : List (Int × ByteArray)) : List (Int × ByteArray) := if 4096 < ms.length then ms else cutM (ms.take 12)

set_option maxRecDepth 20000 in
set_option maxHeartbeats 8000000 in
theorem row_big (aX : Option Addr) (nX cX : Nat) (S : ByteArray) (ms : List (Int × ByteArray)) (w : World) (hm : MArr w aX ms) (hl : ms.length = nX) (h4 : 400 < S.size) :
    Calls Tryz.prog 17 #[.agg #[.slice aX nX cX, .string S]] w fun e w' => ∃ a n c, e = .returned (.agg #[.slice a n c, .string (cutS S)]) ∧ (rowM ms).length = n ∧ MArr w' a (rowM ms) ∧ Below w.heap.size w w' := by
  have oX := ((Blk.new w 50 #[.slice aX nX cX, .string (S.extract 0 400)]).alloc (.cells #[.slice none 0 0, .string ⟨#[]⟩] 50 (0, 0)))
  have oR := (Blk.new (w.alloc (.cells #[.slice aX nX cX, .string (S.extract 0 400)] 50 (0, 0))) 50 #[.slice none 0 0, .string ⟨#[]⟩])
  simp only [World.size_alloc] at oR
  have hbw : Below w.heap.size w ((w.alloc (.cells #[.slice aX nX cX, .string (S.extract 0 400)] 50 (0, 0))).alloc (.cells #[.slice none 0 0, .string ⟨#[]⟩] 50 (0, 0))) := by go_grown
  have ltX := oX.lt
  have lwX : w.heap.size ≤ w.heap.size := by omega
  have ltR := oR.lt
  have lwR : w.heap.size ≤ w.heap.size + 1 := by omega
  have HM : Hid (MArr w aX ms) := hm
  have HLN : Hid (ms.length = nX) := hl
  clear hm hl
  have hS : (400 : Int) < S.size := by omega
  have hS1 : (400 : Int) ≤ S.size := by omega
  have hS2 : 400 ≤ S.size := by omega
  have HC : Hid (cutS S = S.extract 0 400) := if_pos h4
  clear h4
  go_enter Tryz.func17, Tryz.ntmps17
  by_cases hn : 4096 < nX
  · have hn2 : (4096 : Int) < nX := by omega
    have HN : Hid (rowM ms = ms) := if_pos (by rw [HLN.out]; exact hn)
    clear hn
    go_wp2
    refine bodyPost_ret (v := .agg #[.slice aX nX cX, .string (S.extract 0 400)]) (by simp [results, Tryz.results17, go_sem]) rfl ?_
    rw [HN.out, HC.out]
    first | refine ⟨aX, nX, cX, rfl, HLN.out, HM.out.below ?_, ?_⟩ | refine ⟨aX, nX, ⟨cX, rfl⟩, HLN.out, HM.out.below ?_, ?_⟩
    · go_grown
    · go_grown
  · have hn2 : ¬ (4096 : Int) < nX := by omega
    have HN : Hid (rowM ms = cutM (ms.take 12)) := if_neg (by rw [HLN.out]; exact hn)
    clear hn
    go_wp2
    go_loopw [3, 4] (fun pl i wl => ∃ (k : Nat), k ≤ nX ∧ k ≤ 12 ∧ i = .int .i64 k ∧ Blk 50 wl w.heap.size #[.slice aX nX cX, .string (S.extract 0 400)] ∧ Blk 50 wl (w.heap.size + 1) #[.slice none 0 0, .string ⟨#[]⟩] ∧ LstG 2 67 w.heap.size wl pl k (cM (cutM (ms.take k))) ∧ Below w.heap.size w wl) (fun _ i _ => nX - (intOf i).toNat)
    case atStart => exact ⟨0, Nat.zero_le _, Nat.zero_le _, rfl, oX, oR, LstG.nil _ _ _ _, hbw⟩
    case round =>
      rename World => wl
      clear oX oR ltX ltR hbw
      obtain ⟨k, hk, hk2, hi9, oX, oR, hL, hbw⟩ := hrel
      subst hi9
      have ltX := oX.lt
      have ltR := oR.lt
      by_cases h0 : k < nX ∧ k < 12
      · obtain ⟨h0, h1⟩ := h0
        have h1i : (k : Int) < 12 := by omega
        obtain ⟨gE, oE, had, k1, k2⟩ := HM.out.at k (by rw [HLN.out]; exact h0)
        subst had
        obtain ⟨v, hpv⟩ : ∃ x9, x9 = (ms.getD k (0, ⟨#[]⟩)).1 := ⟨_, rfl⟩
        obtain ⟨T, hps⟩ : ∃ x9, x9 = (ms.getD k (0, ⟨#[]⟩)).2 := ⟨_, rfl⟩
        rw [← hpv] at k1
        rw [← hps] at k2
        have HPV : Hid (ms.getD k (0, ⟨#[]⟩) = (v, T)) := by show _ = _; rw [hpv, hps]
        clear hpv hps
        have A0 := (hbw.cell (p := ⟨gE, oE + k * 2, none⟩) (World.block_lt_of_cell? w _ k1)).trans k1
        have A1 := (hbw.cell (p := ⟨gE, oE + k * 2 + 1, none⟩) (World.block_lt_of_cell? w _ k2)).trans k2
        clear k1 k2
        have HTK := cutM_take (by rw [HLN.out]; exact h0) HPV.out
        obtain ⟨X0, X1, Xk0, Xk1⟩ := oX.two
        by_cases hT : 400 < T.size
        · have hT0 : (400 : Int) < T.size := by omega
          have hT1 : (400 : Int) ≤ T.size := by omega
          have hT2 : 400 ≤ T.size := by omega
          have HCT : Hid (cutS T = T.extract 0 400) := if_pos hT
          clear hT
          rw [HCT.out] at HTK
          have hb3 := (below_new wl (.cells #[.int .i64 v, .string (T.extract 0 400)] 67 (0, 0))).step (below_new (wl.alloc (.cells #[.int .i64 v, .string (T.extract 0 400)] 67 (0, 0))) (.cells #[.int .i64 v, .string (T.extract 0 400)] 67 (0, 0))) (Nat.le_refl _)
          have oB := Blk.new (wl.alloc (.cells #[.int .i64 v, .string (T.extract 0 400)] 67 (0, 0))) 67 #[.int .i64 v, .string (T.extract 0 400)]
          simp only [World.size_alloc] at oB
          have hL3 := hL.below hb3
          have hbw3 := hbw.step hb3 (Nat.le_refl _)
          go_wp2_with (at_builtin; refine wpList_append_g rfl _ _ 22 rfl 2 w.heap.size 67 (.agg #[.int .i64 0, .string ⟨#[]⟩]) 24 Tryz.und_monos Tryz.info_mono (by decide) rfl (by decide) (nuM _ _) (by decide) _ _ _ rfl hL3 ⟨wl.heap.size + 1, 0, none⟩ 1 1 [.int .i64 v, .string (T.extract 0 400)] rfl rfl (by intro j u hj; match j, hj with | 0, hj => (simp at hj; subst hj; exact oB.cell 0) | 1, hj => (simp at hj; subst hj; exact oB.cell 1) | j + 2, hj => (simp at hj)) (by intro u hu; simp at hu; rcases hu with rfl | rfl <;> rfl) (nuM _ _) (Or.inl (by decide)) (by omega) hbw3.size ?_; intro v8 w8 hL8 hA8 hn8)
          have oX8 := (hA8.other _ (oX.stay hb3).lt (hL3.blk (oX.stay hb3) (by decide))).trans (oX.stay hb3)
          have oR8 := (hA8.other _ (oR.stay hb3).lt (hL3.blk (oR.stay hb3) (by decide))).trans (oR.stay hb3)
          go_roundw
          case rel => exact ⟨k + 1, by omega, by omega, by go_num, oX8, oR8, by rw [HTK]; exact hL8, hbw3.trans hA8.bel⟩
          case measure => simp [intOf]; omega
        · have hT0 : ¬ (400 : Int) < T.size := by omega
          have HCT : Hid (cutS T = T) := if_neg hT
          clear hT
          rw [HCT.out] at HTK
          have hb3 := (below_new wl (.cells #[.int .i64 v, .string T] 67 (0, 0))).step (below_new (wl.alloc (.cells #[.int .i64 v, .string T] 67 (0, 0))) (.cells #[.int .i64 v, .string T] 67 (0, 0))) (Nat.le_refl _)
          have oB := Blk.new (wl.alloc (.cells #[.int .i64 v, .string T] 67 (0, 0))) 67 #[.int .i64 v, .string T]
          simp only [World.size_alloc] at oB
          have hL3 := hL.below hb3
          have hbw3 := hbw.step hb3 (Nat.le_refl _)
          go_wp2_with (at_builtin; refine wpList_append_g rfl _ _ 22 rfl 2 w.heap.size 67 (.agg #[.int .i64 0, .string ⟨#[]⟩]) 24 Tryz.und_monos Tryz.info_mono (by decide) rfl (by decide) (nuM _ _) (by decide) _ _ _ rfl hL3 ⟨wl.heap.size + 1, 0, none⟩ 1 1 [.int .i64 v, .string T] rfl rfl (by intro j u hj; match j, hj with | 0, hj => (simp at hj; subst hj; exact oB.cell 0) | 1, hj => (simp at hj; subst hj; exact oB.cell 1) | j + 2, hj => (simp at hj)) (by intro u hu; simp at hu; rcases hu with rfl | rfl <;> rfl) (nuM _ _) (Or.inl (by decide)) (by omega) hbw3.size ?_; intro v8 w8 hL8 hA8 hn8)
          have oX8 := (hA8.other _ (oX.stay hb3).lt (hL3.blk (oX.stay hb3) (by decide))).trans (oX.stay hb3)
          have oR8 := (hA8.other _ (oR.stay hb3).lt (hL3.blk (oR.stay hb3) (by decide))).trans (oR.stay hb3)
          go_roundw
          case rel => exact ⟨k + 1, by omega, by omega, by go_num, oX8, oR8, by rw [HTK]; exact hL8, hbw3.trans hA8.bel⟩
          case measure => simp [intOf]; omega
      · have HTK : Hid (ms.take k = ms.take 12) := by
          by_cases h : k < nX
          · have : k = 12 := by omega
            rw [this]; exact rfl
          · exact (List.take_of_length_le (by rw [HLN.out]; omega)).trans (List.take_of_length_le (by rw [HLN.out]; omega)).symm
        rw [HTK.out] at hL
        obtain ⟨X0, X1, Xk0, Xk1⟩ := oX.two
        obtain ⟨R0, R1, Rk0, Rk1⟩ := oR.two
        by_cases hkn : k < nX
        · have hk9 : ¬ (k : Int) < 12 := by omega
          clear h0
          obtain ⟨aL, cL, rfl, hlen, -⟩ := MArr.of hL
          have oX1 : Blk 50 (stores wl w.heap.size 0 [.slice aL k cL]) w.heap.size #[.slice aL k cL, .string (S.extract 0 400)] := by have h := Blk.putS [.slice aL k cL] 0 oX (by simp); simpa using h
          have oR1 := oR.otherS (show w.heap.size ≠ w.heap.size + 1 by omega) 0 [.slice aL k cL]
          have hL1 := hL.storesO oX (by decide) 0 [.slice aL k cL]
          have hL2 := hL1.storesO oR1 (by decide) 0 [.slice aL k cL, .string (S.extract 0 400)]
          have hB1 := below_stores (Nat.le_refl _) [.slice aL k cL] 0 hbw
          have hB2 := below_stores (show w.heap.size ≤ w.heap.size + 1 by omega) [.slice aL k cL, .string (S.extract 0 400)] 0 hB1
          obtain ⟨_, _, hv9, -, hMA⟩ := MArr.of hL2
          cases hv9
          go_wp2
          refine bodyPost_ret (v := .agg #[.slice aL k cL, .string (S.extract 0 400)]) (by simp [results, Tryz.results17, go_sem, R0, R1]) rfl ?_
          rw [HN.out, HC.out]
          first | exact ⟨aL, k, cL, rfl, hlen, hMA, hB2⟩ | exact ⟨aL, k, ⟨cL, rfl⟩, hlen, hMA, hB2⟩
        · clear h0
          obtain ⟨aL, cL, rfl, hlen, -⟩ := MArr.of hL
          have oX1 : Blk 50 (stores wl w.heap.size 0 [.slice aL k cL]) w.heap.size #[.slice aL k cL, .string (S.extract 0 400)] := by have h := Blk.putS [.slice aL k cL] 0 oX (by simp); simpa using h
          have oR1 := oR.otherS (show w.heap.size ≠ w.heap.size + 1 by omega) 0 [.slice aL k cL]
          have hL1 := hL.storesO oX (by decide) 0 [.slice aL k cL]
          have hL2 := hL1.storesO oR1 (by decide) 0 [.slice aL k cL, .string (S.extract 0 400)]
          have hB1 := below_stores (Nat.le_refl _) [.slice aL k cL] 0 hbw
          have hB2 := below_stores (show w.heap.size ≤ w.heap.size + 1 by omega) [.slice aL k cL, .string (S.extract 0 400)] 0 hB1
          obtain ⟨_, _, hv9, -, hMA⟩ := MArr.of hL2
          cases hv9
          go_wp2
          refine bodyPost_ret (v := .agg #[.slice aL k cL, .string (S.extract 0 400)]) (by simp [results, Tryz.results17, go_sem, R0, R1]) rfl ?_
          rw [HN.out, HC.out]
          first | exact ⟨aL, k, cL, rfl, hlen, hMA, hB2⟩ | exact ⟨aL, k, ⟨cL, rfl⟩, hlen, hMA, hB2⟩

set_option maxRecDepth 20000 in
set_option maxHeartbeats 8000000 in
theorem row_low (aX : Option Addr) (nX cX : Nat) (S : ByteArray) (ms : List (Int × ByteArray)) (w : World) (hm : MArr w aX ms) (hl : ms.length = nX) (h4 : ¬ 400 < S.size) :
    Calls Tryz.prog 17 #[.agg #[.slice aX nX cX, .string S]] w fun e w' => ∃ a n c, e = .returned (.agg #[.slice a n c, .string (cutS S)]) ∧ (rowM ms).length = n ∧ MArr w' a (rowM ms) ∧ Below w.heap.size w w' := by
  have oX := ((Blk.new w 50 #[.slice aX nX cX, .string S]).alloc (.cells #[.slice none 0 0, .string ⟨#[]⟩] 50 (0, 0)))
  have oR := (Blk.new (w.alloc (.cells #[.slice aX nX cX, .string S] 50 (0, 0))) 50 #[.slice none 0 0, .string ⟨#[]⟩])
  simp only [World.size_alloc] at oR
  have hbw : Below w.heap.size w ((w.alloc (.cells #[.slice aX nX cX, .string S] 50 (0, 0))).alloc (.cells #[.slice none 0 0, .string ⟨#[]⟩] 50 (0, 0))) := by go_grown
  have ltX := oX.lt
  have lwX : w.heap.size ≤ w.heap.size := by omega
  have ltR := oR.lt
  have lwR : w.heap.size ≤ w.heap.size + 1 := by omega
  have HM : Hid (MArr w aX ms) := hm
  have HLN : Hid (ms.length = nX) := hl
  clear hm hl
  have hS : ¬ (400 : Int) < S.size := by omega
  have HC : Hid (cutS S = S) := if_neg h4
  clear h4
  go_enter Tryz.func17, Tryz.ntmps17
  by_cases hn : 4096 < nX
  · have hn2 : (4096 : Int) < nX := by omega
    have HN : Hid (rowM ms = ms) := if_pos (by rw [HLN.out]; exact hn)
    clear hn
    go_wp2
    refine bodyPost_ret (v := .agg #[.slice aX nX cX, .string S]) (by simp [results, Tryz.results17, go_sem]) rfl ?_
    rw [HN.out, HC.out]
    first | refine ⟨aX, nX, cX, rfl, HLN.out, HM.out.below ?_, ?_⟩ | refine ⟨aX, nX, ⟨cX, rfl⟩, HLN.out, HM.out.below ?_, ?_⟩
    · go_grown
    · go_grown
  · have hn2 : ¬ (4096 : Int) < nX := by omega
    have HN : Hid (rowM ms = cutM (ms.take 12)) := if_neg (by rw [HLN.out]; exact hn)
    clear hn
    go_wp2
    go_loopw [3, 4] (fun pl i wl => ∃ (k : Nat), k ≤ nX ∧ k ≤ 12 ∧ i = .int .i64 k ∧ Blk 50 wl w.heap.size #[.slice aX nX cX, .string S] ∧ Blk 50 wl (w.heap.size + 1) #[.slice none 0 0, .string ⟨#[]⟩] ∧ LstG 2 67 w.heap.size wl pl k (cM (cutM (ms.take k))) ∧ Below w.heap.size w wl) (fun _ i _ => nX - (intOf i).toNat)
    case atStart => exact ⟨0, Nat.zero_le _, Nat.zero_le _, rfl, oX, oR, LstG.nil _ _ _ _, hbw⟩
    case round =>
      rename World => wl
      clear oX oR ltX ltR hbw
      obtain ⟨k, hk, hk2, hi9, oX, oR, hL, hbw⟩ := hrel
      subst hi9
      have ltX := oX.lt
      have ltR := oR.lt
      by_cases h0 : k < nX ∧ k < 12
      · obtain ⟨h0, h1⟩ := h0
        have h1i : (k : Int) < 12 := by omega
        obtain ⟨gE, oE, had, k1, k2⟩ := HM.out.at k (by rw [HLN.out]; exact h0)
        subst had
        obtain ⟨v, hpv⟩ : ∃ x9, x9 = (ms.getD k (0, ⟨#[]⟩)).1 := ⟨_, rfl⟩
        obtain ⟨T, hps⟩ : ∃ x9, x9 = (ms.getD k (0, ⟨#[]⟩)).2 := ⟨_, rfl⟩
        rw [← hpv] at k1
        rw [← hps] at k2
        have HPV : Hid (ms.getD k (0, ⟨#[]⟩) = (v, T)) := by show _ = _; rw [hpv, hps]
        clear hpv hps
        have A0 := (hbw.cell (p := ⟨gE, oE + k * 2, none⟩) (World.block_lt_of_cell? w _ k1)).trans k1
        have A1 := (hbw.cell (p := ⟨gE, oE + k * 2 + 1, none⟩) (World.block_lt_of_cell? w _ k2)).trans k2
        clear k1 k2
        have HTK := cutM_take (by rw [HLN.out]; exact h0) HPV.out
        obtain ⟨X0, X1, Xk0, Xk1⟩ := oX.two
        by_cases hT : 400 < T.size
        · have hT0 : (400 : Int) < T.size := by omega
          have hT1 : (400 : Int) ≤ T.size := by omega
          have hT2 : 400 ≤ T.size := by omega
          have HCT : Hid (cutS T = T.extract 0 400) := if_pos hT
          clear hT
          rw [HCT.out] at HTK
          have hb3 := (below_new wl (.cells #[.int .i64 v, .string (T.extract 0 400)] 67 (0, 0))).step (below_new (wl.alloc (.cells #[.int .i64 v, .string (T.extract 0 400)] 67 (0, 0))) (.cells #[.int .i64 v, .string (T.extract 0 400)] 67 (0, 0))) (Nat.le_refl _)
          have oB := Blk.new (wl.alloc (.cells #[.int .i64 v, .string (T.extract 0 400)] 67 (0, 0))) 67 #[.int .i64 v, .string (T.extract 0 400)]
          simp only [World.size_alloc] at oB
          have hL3 := hL.below hb3
          have hbw3 := hbw.step hb3 (Nat.le_refl _)
          go_wp2_with (at_builtin; refine wpList_append_g rfl _ _ 22 rfl 2 w.heap.size 67 (.agg #[.int .i64 0, .string ⟨#[]⟩]) 24 Tryz.und_monos Tryz.info_mono (by decide) rfl (by decide) (nuM _ _) (by decide) _ _ _ rfl hL3 ⟨wl.heap.size + 1, 0, none⟩ 1 1 [.int .i64 v, .string (T.extract 0 400)] rfl rfl (by intro j u hj; match j, hj with | 0, hj => (simp at hj; subst hj; exact oB.cell 0) | 1, hj => (simp at hj; subst hj; exact oB.cell 1) | j + 2, hj => (simp at hj)) (by intro u hu; simp at hu; rcases hu with rfl | rfl <;> rfl) (nuM _ _) (Or.inl (by decide)) (by omega) hbw3.size ?_; intro v8 w8 hL8 hA8 hn8)
          have oX8 := (hA8.other _ (oX.stay hb3).lt (hL3.blk (oX.stay hb3) (by decide))).trans (oX.stay hb3)
          have oR8 := (hA8.other _ (oR.stay hb3).lt (hL3.blk (oR.stay hb3) (by decide))).trans (oR.stay hb3)
          go_roundw
          case rel => exact ⟨k + 1, by omega, by omega, by go_num, oX8, oR8, by rw [HTK]; exact hL8, hbw3.trans hA8.bel⟩
          case measure => simp [intOf]; omega
        · have hT0 : ¬ (400 : Int) < T.size := by omega
          have HCT : Hid (cutS T = T) := if_neg hT
          clear hT
          rw [HCT.out] at HTK
          have hb3 := (below_new wl (.cells #[.int .i64 v, .string T] 67 (0, 0))).step (below_new (wl.alloc (.cells #[.int .i64 v, .string T] 67 (0, 0))) (.cells #[.int .i64 v, .string T] 67 (0, 0))) (Nat.le_refl _)
          have oB := Blk.new (wl.alloc (.cells #[.int .i64 v, .string T] 67 (0, 0))) 67 #[.int .i64 v, .string T]
          simp only [World.size_alloc] at oB
          have hL3 := hL.below hb3
          have hbw3 := hbw.step hb3 (Nat.le_refl _)
          go_wp2_with (at_builtin; refine wpList_append_g rfl _ _ 22 rfl 2 w.heap.size 67 (.agg #[.int .i64 0, .string ⟨#[]⟩]) 24 Tryz.und_monos Tryz.info_mono (by decide) rfl (by decide) (nuM _ _) (by decide) _ _ _ rfl hL3 ⟨wl.heap.size + 1, 0, none⟩ 1 1 [.int .i64 v, .string T] rfl rfl (by intro j u hj; match j, hj with | 0, hj => (simp at hj; subst hj; exact oB.cell 0) | 1, hj => (simp at hj; subst hj; exact oB.cell 1) | j + 2, hj => (simp at hj)) (by intro u hu; simp at hu; rcases hu with rfl | rfl <;> rfl) (nuM _ _) (Or.inl (by decide)) (by omega) hbw3.size ?_; intro v8 w8 hL8 hA8 hn8)
          have oX8 := (hA8.other _ (oX.stay hb3).lt (hL3.blk (oX.stay hb3) (by decide))).trans (oX.stay hb3)
          have oR8 := (hA8.other _ (oR.stay hb3).lt (hL3.blk (oR.stay hb3) (by decide))).trans (oR.stay hb3)
          go_roundw
          case rel => exact ⟨k + 1, by omega, by omega, by go_num, oX8, oR8, by rw [HTK]; exact hL8, hbw3.trans hA8.bel⟩
          case measure => simp [intOf]; omega
      · have HTK : Hid (ms.take k = ms.take 12) := by
          by_cases h : k < nX
          · have : k = 12 := by omega
            rw [this]; exact rfl
          · exact (List.take_of_length_le (by rw [HLN.out]; omega)).trans (List.take_of_length_le (by rw [HLN.out]; omega)).symm
        rw [HTK.out] at hL
        obtain ⟨X0, X1, Xk0, Xk1⟩ := oX.two
        obtain ⟨R0, R1, Rk0, Rk1⟩ := oR.two
        by_cases hkn : k < nX
        · have hk9 : ¬ (k : Int) < 12 := by omega
          clear h0
          obtain ⟨aL, cL, rfl, hlen, -⟩ := MArr.of hL
          have oX1 : Blk 50 (stores wl w.heap.size 0 [.slice aL k cL]) w.heap.size #[.slice aL k cL, .string S] := by have h := Blk.putS [.slice aL k cL] 0 oX (by simp); simpa using h
          have oR1 := oR.otherS (show w.heap.size ≠ w.heap.size + 1 by omega) 0 [.slice aL k cL]
          have hL1 := hL.storesO oX (by decide) 0 [.slice aL k cL]
          have hL2 := hL1.storesO oR1 (by decide) 0 [.slice aL k cL, .string S]
          have hB1 := below_stores (Nat.le_refl _) [.slice aL k cL] 0 hbw
          have hB2 := below_stores (show w.heap.size ≤ w.heap.size + 1 by omega) [.slice aL k cL, .string S] 0 hB1
          obtain ⟨_, _, hv9, -, hMA⟩ := MArr.of hL2
          cases hv9
          go_wp2
          refine bodyPost_ret (v := .agg #[.slice aL k cL, .string S]) (by simp [results, Tryz.results17, go_sem, R0, R1]) rfl ?_
          rw [HN.out, HC.out]
          first | exact ⟨aL, k, cL, rfl, hlen, hMA, hB2⟩ | exact ⟨aL, k, ⟨cL, rfl⟩, hlen, hMA, hB2⟩
        · clear h0
          obtain ⟨aL, cL, rfl, hlen, -⟩ := MArr.of hL
          have oX1 : Blk 50 (stores wl w.heap.size 0 [.slice aL k cL]) w.heap.size #[.slice aL k cL, .string S] := by have h := Blk.putS [.slice aL k cL] 0 oX (by simp); simpa using h
          have oR1 := oR.otherS (show w.heap.size ≠ w.heap.size + 1 by omega) 0 [.slice aL k cL]
          have hL1 := hL.storesO oX (by decide) 0 [.slice aL k cL]
          have hL2 := hL1.storesO oR1 (by decide) 0 [.slice aL k cL, .string S]
          have hB1 := below_stores (Nat.le_refl _) [.slice aL k cL] 0 hbw
          have hB2 := below_stores (show w.heap.size ≤ w.heap.size + 1 by omega) [.slice aL k cL, .string S] 0 hB1
          obtain ⟨_, _, hv9, -, hMA⟩ := MArr.of hL2
          cases hv9
          go_wp2
          refine bodyPost_ret (v := .agg #[.slice aL k cL, .string S]) (by simp [results, Tryz.results17, go_sem, R0, R1]) rfl ?_
          rw [HN.out, HC.out]
          first | exact ⟨aL, k, cL, rfl, hlen, hMA, hB2⟩ | exact ⟨aL, k, ⟨cL, rfl⟩, hlen, hMA, hB2⟩

theorem row_any (aX : Option Addr) (nX cX : Nat) (S : ByteArray) (ms : List (Int × ByteArray)) (w : World) (hm : MArr w aX ms) (hl : ms.length = nX) :
    Calls Tryz.prog 17 #[.agg #[.slice aX nX cX, .string S]] w fun e w' => ∃ a n c, e = .returned (.agg #[.slice a n c, .string (cutS S)]) ∧ (rowM ms).length = n ∧ MArr w' a (rowM ms) ∧ Below w.heap.size w w' := by
  by_cases h4 : 400 < S.size
  · exact row_big aX nX cX S ms w hm hl h4
  · exact row_low aX nX cX S ms w hm hl h4
theorem rowM_size {ms : List (Int × ByteArray)} (h : (rowM ms).length ≤ 4096) : ∀ p ∈ rowM ms, p.2.size ≤ 10000 := by
  unfold rowM at h ⊢
  by_cases hl : 4096 < ms.length
  · rw [if_pos hl] at h; omega
  · rw [if_neg hl]
    intro p hp
    unfold cutM at hp
    obtain ⟨q, _, rfl⟩ := List.mem_map.1 hp
    have := cutS_size q.2
    simp only []
    omega

end Go.Proofs.YteefniagebcagabGreatDoor
