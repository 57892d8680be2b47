/- Joined: LinH, LinI, LinJ, LinK: words and contracts; no statement of the seat is proved here. -/
import Derived.Test.YteefniagebcagaaGreatDoorJoin15Tells
import Derived.Lib.AppendZeros
/- Contracts of linear's place and Coef; they prove no statement of the seat. -/
namespace Go.Proofs.YteefniagebcagaaGreatDoor
open Go.RowKit
set_option linter.unusedVariables false

/-- How two variables stand. -/
def vcmp (x y : Int) : Int := if x < y then -1 else if y < x then 1 else 0
theorem compare_any (x y : Int) (w : World) :
    Calls Tryz.prog 108 #[.int .i64 x, .int .i64 y] w fun e w' => e = .returned (.int .i64 (vcmp x y)) ∧ w' = w := by
  by_cases h1 : x < y
  · have HV : Hid (vcmp x y = -1) := if_pos h1
    go_enter Tryz.func108, Tryz.ntmps108
    go_wp2
    go_ret
    rw [HV.out]
    exact ⟨rfl, rfl⟩
  · by_cases h2 : y < x
    · have HV : Hid (vcmp x y = 1) := by show _ = _; unfold vcmp; rw [if_neg h1, if_pos h2]
      go_enter Tryz.func108, Tryz.ntmps108
      go_wp2
      go_ret
      rw [HV.out]
      exact ⟨rfl, rfl⟩
    · have HV : Hid (vcmp x y = 0) := by show _ = _; unfold vcmp; rw [if_neg h1, if_neg h2]
      go_enter Tryz.func108, Tryz.ntmps108
      go_wp2
      go_ret
      rw [HV.out]
      exact ⟨rfl, rfl⟩
theorem place1_any (p : Int) (s : Bool) (a : Option Addr) (m c : Nat) (v : Int) (w : World) :
    Calls Tryz.prog 107 #[.agg #[.int .i64 p, .bool s, .slice a m c], .int .i64 v] w fun e w' => e = .returned (.int .i64 (vcmp p v)) ∧ Below w.heap.size w w' := by
  have hbw := below_new w (.cells #[.int .i64 p, .bool s, .slice a m c] 116 (0, 0))
  go_enter Tryz.func107, Tryz.ntmps107
  go_wp2_with fail
  refine (compare_any p v _).mono ?_
  rintro e w1 ⟨rfl, rfl⟩
  go_wp2
  go_ret
  exact ⟨rfl, hbw⟩
/-- How many variables lie ahead of v. -/
def ahead (l : List (Nat × Int)) (v : Int) : Nat := l.countP fun p => decide ((p.1 : Int) < v)
theorem rise_at {l : List (Nat × Int)} (h : Rise l) {i j : Nat} (hij : i < j) (hj : j < l.length) : (l.getD i (0, 0)).1 < (l.getD j (0, 0)).1 := by
  have := List.pairwise_iff_getElem.1 h i j (by omega) hj hij
  simpa [List.getD_eq_getElem?_getD, List.getElem?_eq_getElem hj, List.getElem?_eq_getElem (show i < l.length by omega)] using this
theorem countP_at (p : Nat × Int → Bool) : ∀ (l : List (Nat × Int)) (i : Nat), i ≤ l.length → (∀ j, j < i → p (l.getD j (0, 0)) = true) → (∀ j, i ≤ j → j < l.length → p (l.getD j (0, 0)) = false) → l.countP p = i
  | [], i, hi, _, _ => by simp at hi; simp [hi]
  | x :: l, 0, _, _, h2 => by
    have h0 := h2 0 (Nat.le_refl _) (by simp)
    have := countP_at p l 0 (Nat.zero_le _) (fun j hj => absurd hj (Nat.not_lt_zero _)) (fun j _ hj => by simpa using h2 (j + 1) (Nat.zero_le _) (by simpa using hj))
    simp at h0
    simp [h0, this]
  | x :: l, i + 1, hi, h1, h2 => by
    have h0 := h1 0 (by omega)
    have := countP_at p l i (by simpa using hi) (fun j hj => by simpa using h1 (j + 1) (by omega)) (fun j hj hl => by simpa using h2 (j + 1) (by omega) (by simpa using hl))
    simp at h0
    simp [h0, this]
theorem ahead_is {l : List (Nat × Int)} {v : Int} {i : Nat} (h : Rise l) (hi : i ≤ l.length) (h1 : i = 0 ∨ (((l.getD (i - 1) (0, 0)).1 : Int) < v)) (h2 : i = l.length ∨ v ≤ ((l.getD i (0, 0)).1 : Int)) : ahead l v = i := by
  refine countP_at _ l i hi ?_ ?_
  · intro j hj
    rcases h1 with h1 | h1
    · omega
    · rcases Nat.lt_or_ge j (i - 1) with k | k
      · have := rise_at h k (by omega); exact decide_eq_true (by omega)
      · have : j = i - 1 := by omega
        subst this; simpa using h1
  · intro j hj hl
    rcases h2 with h2 | h2
    · omega
    · rcases Nat.lt_or_ge i j with k | k
      · have := rise_at h k hl; exact decide_eq_false (by omega)
      · have : j = i := by omega
        subst this; simpa using h2

set_option maxRecDepth 20000 in
set_option maxHeartbeats 8000000 in
theorem search_any (vX : Value) (l : List (Nat × Int)) (v : Int) (w : World) (hv : PTS l vX w) (hf : Fine l) :
    Calls Tryz.prog 106 #[vX, .int .i64 v, .func (.func 107) #[] #[]] w fun e w' => e = .returned (.tuple #[.int .i64 (ahead l v), .bool (decide (∃ p ∈ l, (p.1 : Int) = v))]) ∧ Below w.heap.size w w' := by
  obtain ⟨ao, n, cap, rfl, h1, h2, h3, h4, h5⟩ := hv
  have HX : Hid (PArr w ao l) := h5
  have HLN : Hid (l.length = n) := h1
  have HFN : Hid (Rise l) := hf.1
  have hn : n ≤ 4096 := by rw [← h1]; exact hf.len
  clear h1 h2 h3 h4 h5 hf
  go_enter Tryz.func106, Tryz.ntmps106
  go_wp2
  go_loopw [9, 10] (fun i j wl => ∃ x y : Nat, i = .int .i64 x ∧ j = .int .i64 y ∧ x ≤ y ∧ y ≤ n ∧ Hid ((x = 0 ∨ (((l.getD (x - 1) (0, 0)).1 : Int) < v)) ∧ (y = n ∨ v ≤ ((l.getD y (0, 0)).1 : Int))) ∧ Below w.heap.size w wl) (fun i j _ => (intOf j).toNat - (intOf i).toNat)
  case atStart => exact ⟨0, n, rfl, rfl, Nat.zero_le _, Nat.le_refl _, ⟨Or.inl rfl, Or.inl rfl⟩, Below.refl _ _⟩
  case round =>
    rename World => wl
    obtain ⟨x, y, rfl, rfl, hxy, hyn, HI, hbw⟩ := hrel
    by_cases h0 : x < y
    · obtain ⟨m, hm⟩ : ∃ m, m = (x + y) / 2 := ⟨_, rfl⟩
      have hm1 : x ≤ m := by omega
      have hm2 : m < y := by omega
      have HM : Hid (m = (x + y) / 2) := hm
      clear hm
      obtain ⟨gE, oE, sE, aE, mE, cE, had, k1, k2, k3, k4⟩ := HX.out.at m (by have := HLN.out; omega)
      subst had
      obtain ⟨pv, hpv⟩ : ∃ x9, x9 = (l.getD m (0, 0)).1 := ⟨_, rfl⟩
      obtain ⟨pz, hpz⟩ : ∃ x9, x9 = (l.getD m (0, 0)).2 := ⟨_, rfl⟩
      rw [← hpv] at k1
      rw [← hpz] at k4
      have HPV : Hid (l.getD m (0, 0) = (pv, pz)) := by show _ = _; rw [hpv, hpz]
      clear hpv hpz
      have A0 := (hbw.cell (p := ⟨gE, oE + m * 3, none⟩) (World.block_lt_of_cell? w _ k1)).trans k1
      have A1 := (hbw.cell (p := ⟨gE, oE + m * 3 + 1, none⟩) (World.block_lt_of_cell? w _ k2)).trans k2
      have A2 := (hbw.cell (p := ⟨gE, oE + m * 3 + 2, none⟩) (World.block_lt_of_cell? w _ k3)).trans k3
      have hE0 := k4.below hbw
      clear k1 k2 k3 k4
      rw [HM.out] at A0 A1 A2
      go_wp2_with fail
      refine (place1_any pv sE aE mE cE v _).mono ?_
      rintro e w1 ⟨rfl, hb1⟩
      replace hbw := hbw.step hb1 (Nat.le_refl _)
      clear A0 A1 A2 hE0
      by_cases hc : (pv : Int) < v
      · have hc1 : vcmp pv v < 0 := by unfold vcmp; rw [if_pos hc]; decide
        have HC : Hid ((pv : Int) < v) := hc
        clear hc
        go_wp2
        go_roundw
        case rel =>
          refine ⟨m + 1, y, ?_, rfl, by omega, hyn, ⟨Or.inr ?_, HI.out.2⟩, hbw⟩
          · have := HM.out
            rw [this]; go_num
          · rw [Nat.add_sub_cancel, HPV.out]; exact HC.out
        case measure => have := HM.out; simp [intOf]; omega
      · have hc1 : ¬ vcmp pv v < 0 := by
          unfold vcmp; rw [if_neg hc]; split <;> decide
        have HC : Hid (¬ (pv : Int) < v) := hc
        clear hc
        go_wp2
        go_roundw
        case rel =>
          refine ⟨x, m, rfl, ?_, hm1, by omega, ⟨HI.out.1, Or.inr ?_⟩, hbw⟩
          · have := HM.out
            rw [this]; go_num
          · rw [HPV.out]; have := HC.out; simp only; omega
        case measure => have := HM.out; simp [intOf]; omega
    · have hxe : x = y := by omega
      subst hxe
      have HAH : Hid (ahead l v = x) := ahead_is HFN.out (by rw [HLN.out]; exact hyn) HI.out.1 (by rw [HLN.out]; exact HI.out.2)
      by_cases hxn : x < n
      · clear h0
        obtain ⟨gE, oE, sE, aE, mE, cE, had, k1, k2, k3, k4⟩ := HX.out.at x (by have := HLN.out; omega)
        subst had
        obtain ⟨pv, hpv⟩ : ∃ x9, x9 = (l.getD x (0, 0)).1 := ⟨_, rfl⟩
        obtain ⟨pz, hpz⟩ : ∃ x9, x9 = (l.getD x (0, 0)).2 := ⟨_, rfl⟩
        rw [← hpv] at k1
        rw [← hpz] at k4
        have HPV : Hid (l.getD x (0, 0) = (pv, pz)) := by show _ = _; rw [hpv, hpz]
        clear hpv hpz
        have A0 := (hbw.cell (p := ⟨gE, oE + x * 3, none⟩) (World.block_lt_of_cell? w _ k1)).trans k1
        have A1 := (hbw.cell (p := ⟨gE, oE + x * 3 + 1, none⟩) (World.block_lt_of_cell? w _ k2)).trans k2
        have A2 := (hbw.cell (p := ⟨gE, oE + x * 3 + 2, none⟩) (World.block_lt_of_cell? w _ k3)).trans k3
        have hE0 := k4.below hbw
        clear k1 k2 k3 k4
        go_wp2_with fail
        refine (place1_any pv sE aE mE cE v _).mono ?_
        rintro e w1 ⟨rfl, hb1⟩
        replace hbw := hbw.step hb1 (Nat.le_refl _)
        have HQ : Hid (decide (∃ p ∈ l, (p.1 : Int) = v) = (vcmp pv v == 0)) := by
          show _ = _
          have hmem : (pv, pz) ∈ l := by
            have e9 := HPV.out
            rw [List.getD_eq_getElem?_getD, List.getElem?_eq_getElem (by rw [HLN.out]; exact hxn)] at e9
            simp at e9
            rw [← e9]; exact List.getElem_mem _
          have hge : v ≤ (pv : Int) := by
            rcases HI.out.2 with k | k
            · omega
            · rw [HPV.out] at k; exact k
          by_cases hpv : (pv : Int) = v
          · rw [decide_eq_true ⟨_, hmem, hpv⟩]
            unfold vcmp
            rw [if_neg (by omega), if_neg (by omega)]; rfl
          · have hno : ¬ ∃ p ∈ l, (p.1 : Int) = v := by
              rintro ⟨p, hp, hpe⟩
              obtain ⟨j, hj, hje⟩ := List.mem_iff_getElem.1 hp
              have ej : l.getD j (0, 0) = p := by rw [List.getD_eq_getElem?_getD, List.getElem?_eq_getElem hj, hje]; rfl
              rcases Nat.lt_trichotomy j x with k | k | k
              · rcases HI.out.1 with i0 | i0
                · omega
                · rcases Nat.lt_or_ge j (x - 1) with k2 | k2
                  · have := rise_at HFN.out k2 (by have := HLN.out; omega)
                    rw [ej] at this; omega
                  · rw [show x - 1 = j by omega, ej] at i0; omega
              · subst k; rw [HPV.out] at ej; rw [← ej] at hpe; exact hpv hpe
              · have := rise_at HFN.out k hj
                rw [ej, HPV.out] at this; simp only at this; omega
            rw [decide_eq_false hno]
            unfold vcmp
            rw [if_neg (by omega), if_pos (by omega)]; rfl
        go_wp2
        go_ret2
        rw [HAH.out, HQ.out]
        exact ⟨rfl, hbw⟩
      · have hxe : x = n := by omega
        subst hxe
        have HQ : Hid (decide (∃ p ∈ l, (p.1 : Int) = v) = false) := by
          refine decide_eq_false ?_
          rintro ⟨p, hp, hpe⟩
          obtain ⟨j, hj, hje⟩ := List.mem_iff_getElem.1 hp
          have ej : l.getD j (0, 0) = p := by rw [List.getD_eq_getElem?_getD, List.getElem?_eq_getElem hj, hje]; rfl
          have := HLN.out
          rcases HI.out.1 with i0 | i0
          · omega
          · rcases Nat.lt_or_ge j (x - 1) with k2 | k2
            · have := rise_at HFN.out k2 (by omega)
              rw [ej] at this; omega
            · rw [show x - 1 = j by omega, ej] at i0; omega
        go_wp2
        go_ret2
        rw [HAH.out, HQ.out]
        exact ⟨rfl, hbw⟩

end Go.Proofs.YteefniagebcagaaGreatDoor
/- Contracts of linear's place and Coef; they prove no statement of the seat. -/
namespace Go.Proofs.YteefniagebcagaaGreatDoor
open Go.RowKit
set_option linter.unusedVariables false

/-- A variable's coefficient, any int asked. -/
def coefZ (l : List (Nat × Int)) (v : Int) : Int := if 0 ≤ v then coef l v.toNat else 0
/-- Is the variable there? -/
def there (l : List (Nat × Int)) (v : Int) : Prop := ∃ p ∈ l, (p.1 : Int) = v
theorem ahead_there {l : List (Nat × Int)} {v : Int} (h : Rise l) {p : Nat × Int} (hp : p ∈ l) (hv : (p.1 : Int) = v) : ahead l v < l.length ∧ l.getD (ahead l v) (0, 0) = p ∧ coefZ l v = p.2 := by
  obtain ⟨j, hj, hje⟩ := List.mem_iff_getElem.1 hp
  have ej : l.getD j (0, 0) = p := by rw [List.getD_eq_getElem?_getD, List.getElem?_eq_getElem hj, hje]; rfl
  have ha : ahead l v = j := by
    refine ahead_is h (by omega) ?_ (Or.inr (by rw [ej]; omega))
    rcases Nat.eq_zero_or_pos j with k | k
    · exact Or.inl k
    · right
      have := rise_at h (show j - 1 < j by omega) hj
      rw [ej] at this; omega
  rw [ha]
  refine ⟨hj, ej, ?_⟩
  unfold coefZ
  rw [if_pos (by omega), ← hv, Int.toNat_natCast]
  exact coef_mem h hp
theorem coefZ_not {l : List (Nat × Int)} {v : Int} (h : ¬ there l v) : coefZ l v = 0 := by
  unfold coefZ
  split
  · refine coef_out fun q hq e => h ⟨q, hq, by omega⟩
  · rfl

set_option maxRecDepth 20000 in
set_option maxHeartbeats 8000000 in
theorem place_any (vX : Value) (a : List (Nat × Int)) (r v : Int) (w : World) (hX : TermR w vX a r) :
    Calls Tryz.prog 69 #[vX, .int .i64 v] w fun e w' => e = .returned (.tuple #[.int .i64 (ahead a v), .bool (decide (∃ p ∈ a, (p.1 : Int) = v))]) ∧ Below w.heap.size w w' := by
  obtain ⟨pX, qX, rX, xX, aX, nX, cX, rfl, hX⟩ := hX
  have oX := (Blk.new w 33 #[.slice pX qX rX, .bool xX, .slice aX nX cX])
  have hbw : Below w.heap.size w (w.alloc (.cells #[.slice pX qX rX, .bool xX, .slice aX nX cX] 33 (0, 0))) := by go_grown
  replace hX := hX.below hbw
  have ltX := oX.lt
  have lwX : w.heap.size ≤ w.heap.size := by omega
  go_enter Tryz.func69, Tryz.ntmps69
  obtain ⟨Xc0, Xc1, Xc2⟩ := oX.three
  obtain ⟨Xk0, Xk1, Xk2⟩ := oX.frozen3
  go_wp2_with fail
  refine (search_any _ a v _ hX.pts hX.fine).mono ?_
  rintro e w1 ⟨rfl, hb⟩
  clear Xc0 Xc1 Xc2 Xk0 Xk1 Xk2
  replace oX := oX.stay hb
  replace ltX := oX.lt
  replace hX := hX.below hb
  replace hbw := hbw.step hb (Nat.le_refl _)
  clear hb
  go_wp2
  go_ret2
  exact ⟨rfl, hbw⟩

set_option maxRecDepth 20000 in
set_option maxHeartbeats 8000000 in
theorem lcoef_any (vX : Value) (a : List (Nat × Int)) (r v : Int) (w : World) (hX : TermR w vX a r) :
    Calls Tryz.prog 33 #[vX, .int .i64 v] w fun e w' => ∃ x m n c, e = .returned (.agg #[.bool x, .slice m n c]) ∧ AInt w' (.agg #[.bool x, .slice m n c]) (coefZ a v) ∧ Below w.heap.size w w' := by
  obtain ⟨pX, qX, rX, xX, aX, nX, cX, rfl, hX⟩ := hX
  have ha0 := hX.arr
  have oX := ((Blk.new w 33 #[.slice pX qX rX, .bool xX, .slice aX nX cX]).alloc (.cells #[.bool false, .slice none 0 0] 31 (0, 0)))
  have oR := (Blk.new (w.alloc (.cells #[.slice pX qX rX, .bool xX, .slice aX nX cX] 33 (0, 0))) 31 #[.bool false, .slice none 0 0])
  simp only [World.size_alloc] at oR
  have hbw : Below w.heap.size w ((w.alloc (.cells #[.slice pX qX rX, .bool xX, .slice aX nX cX] 33 (0, 0))).alloc (.cells #[.bool false, .slice none 0 0] 31 (0, 0))) := by go_grown
  replace hX := hX.below hbw
  have ltX := oX.lt
  have lwX : w.heap.size ≤ w.heap.size := by omega
  have ltR := oR.lt
  have lwR : w.heap.size ≤ w.heap.size + 1 := by omega
  go_enter Tryz.func33, Tryz.ntmps33
  have HX : Hid (PArr w pX a) := ha0
  have HLN : Hid (a.length = qX) := hX.len
  have HFN : Hid (Fine a) := hX.fine
  clear ha0
  obtain ⟨Xc0, Xc1, Xc2⟩ := oX.three
  obtain ⟨Xk0, Xk1, Xk2⟩ := oX.frozen3
  go_wp2_with fail
  refine (place_any _ a r v _ hX.val).mono ?_
  rintro e w1 ⟨rfl, hb⟩
  clear Xc0 Xc1 Xc2 Xk0 Xk1 Xk2
  replace oX := oX.stay hb
  replace ltX := oX.lt
  replace oR := oR.stay hb
  replace ltR := oR.lt
  replace hX := hX.below hb
  replace hbw := hbw.step hb (Nat.le_refl _)
  clear hb
  by_cases hth : ∃ p ∈ a, (p.1 : Int) = v
  · have hd : decide (∃ p ∈ a, (p.1 : Int) = v) = true := decide_eq_true hth
    obtain ⟨⟨v9, z9⟩, hp9, hv9⟩ := hth
    have H9 : Hid (ahead a v < a.length ∧ a.getD (ahead a v) (0, 0) = (v9, z9) ∧ coefZ a v = z9) := ahead_there HFN.out.1 hp9 hv9
    clear hp9 hv9
    obtain ⟨i, hi⟩ : ∃ i, i = ahead a v := ⟨_, rfl⟩
    rw [← hi] at H9 ⊢
    have hiq : i < qX := by have := H9.out.1; rw [HLN.out] at this; exact this
    clear hi
    obtain ⟨gE, oE, sE, aE, mE, cE, had, k1, k2, k3, k4⟩ := HX.out.at i (by rw [HLN.out]; exact hiq)
    subst had
    obtain ⟨pv, hpv⟩ : ∃ x9, x9 = (a.getD i (0, 0)).1 := ⟨_, rfl⟩
    obtain ⟨pz, hpz⟩ : ∃ x9, x9 = (a.getD i (0, 0)).2 := ⟨_, rfl⟩
    rw [← hpv] at k1
    rw [← hpz] at k4
    have HPV : Hid (a.getD i (0, 0) = (pv, pz)) := by show _ = _; rw [hpv, hpz]
    clear hpv hpz
    have A0 := (hbw.cell (p := ⟨gE, oE + i * 3, none⟩) (World.block_lt_of_cell? w _ k1)).trans k1
    have A1 := (hbw.cell (p := ⟨gE, oE + i * 3 + 1, none⟩) (World.block_lt_of_cell? w _ k2)).trans k2
    have A2 := (hbw.cell (p := ⟨gE, oE + i * 3 + 2, none⟩) (World.block_lt_of_cell? w _ k3)).trans k3
    have hE0 := k4.below hbw
    clear k1 k2 k3 k4
    have HZ : Hid (coefZ a v = pz) := by show _ = _; have h := H9.out.2.1; rw [HPV.out] at h; injection h with h1 h2; rw [H9.out.2.2, h2]
    obtain ⟨Xc0, Xc1, Xc2⟩ := oX.three
    obtain ⟨Xk0, Xk1, Xk2⟩ := oX.frozen3
    obtain ⟨Rc0, Rc1, Rk0, Rk1⟩ := oR.two
    try simp only []
    try go_at_K
    repeat (first | go_values | go_skip | go_guarded | go_step | go_upon)
    refine bodyPost_ret (v := .agg #[.bool sE, .slice aE mE cE]) (by simp [results, Tryz.results33, go_sem, Rc0, Rc1]) rfl ?_
    obtain ⟨K1, B1, _⟩ := resI (by decide) (by decide) oR hbw lwR sE aE mE cE
    rw [HZ.out]
    exact ⟨_, _, _, _, rfl, hE0.keepP K1, B1⟩
  · have hd : decide (∃ p ∈ a, (p.1 : Int) = v) = false := decide_eq_false hth
    have HZ : Hid (coefZ a v = 0) := coefZ_not hth
    clear hth
    obtain ⟨Rc0, Rc1, Rk0, Rk1⟩ := oR.two
    try simp only []
    try go_at_K
    repeat (first | go_values | go_skip | go_guarded | go_step | go_upon)
    refine bodyPost_ret (v := .agg #[.bool false, .slice none 0 0]) (by simp [results, Tryz.results33, go_sem, Rc0, Rc1]) rfl ?_
    obtain ⟨K1, B1, _⟩ := resI (by decide) (by decide) oR hbw lwR false none 0 0
    rw [HZ.out]
    exact ⟨_, _, _, _, rfl, AInt.zero _, B1⟩

end Go.Proofs.YteefniagebcagaaGreatDoor
/- Contracts of slices.Grow and Concat for parts; they prove no statement of the seat. -/
namespace Go.Proofs.YteefniagebcagaaGreatDoor
open Go.RowKit
set_option linter.unusedVariables false

end Go.Proofs.YteefniagebcagaaGreatDoor
/- Contracts of slices.Concat for parts and linear's without; they prove no statement of the seat. -/
namespace Go.Proofs.YteefniagebcagaaGreatDoor
open Go.RowKit
set_option linter.unusedVariables false

end Go.Proofs.YteefniagebcagaaGreatDoor
