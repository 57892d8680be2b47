/- Contracts of linear's place and Coef; they prove no statement of the seat. -/
import Derived.Test.YteefniagebcagaaGreatDoorJoin17Holds
namespace Go.Proofs.YteefniagebcagaaGreatDoor
open Go.RowKit
set_option linter.unusedVariables false

/-- A variable's coefficient, any int asked. -/
def coefZ (l : List (Nat × Int)) (v : Int) : Int := if 0 ≤ v then coef l v.toNat else 0
/-- Is the variable there? -/
def there (l : List (Nat × Int)) (v : Int) : Prop := ∃ p ∈ l, (p.1 : Int) = v
theorem ahead_there {l : List (Nat × Int)} {v : Int} (h : Rise l) {p : Nat × Int} (hp : p ∈ l) (hv : (p.1 : Int) = v) : ahead l v < l.length ∧ l.getD (ahead l v) (0, 0) = p ∧ coefZ l v = p.2 := by
  obtain ⟨j, hj, hje⟩ := List.mem_iff_getElem.1 hp
  have ej : l.getD j (0, 0) = p := by rw [List.getD_eq_getElem?_getD, List.getElem?_eq_getElem hj, hje]; rfl
  have ha : ahead l v = j := by
    refine ahead_is h (by omega) ?_ (Or.inr (by rw [ej]; omega))
    rcases Nat.eq_zero_or_pos j with k | k
    · exact Or.inl k
    · right
      have := rise_at h (show j - 1 < j by omega) hj
      rw [ej] at this; omega
  rw [ha]
  refine ⟨hj, ej, ?_⟩
  unfold coefZ
  rw [if_pos (by omega), ← hv, Int.toNat_natCast]
  exact coef_mem h hp
theorem coefZ_not {l : List (Nat × Int)} {v : Int} (h : ¬ there l v) : coefZ l v = 0 := by
  unfold coefZ
  split
  · refine coef_out fun q hq e => h ⟨q, hq, by omega⟩
  · rfl

set_option maxRecDepth 20000 in
set_option maxHeartbeats 8000000 in
theorem place_any (vX : Value) (a : List (Nat × Int)) (r v : Int) (w : World) (hX : TermR w vX a r) :
    Calls Tryz.prog 69 #[vX, .int .i64 v] w fun e w' => e = .returned (.tuple #[.int .i64 (ahead a v), .bool (decide (∃ p ∈ a, (p.1 : Int) = v))]) ∧ Below w.heap.size w w' := by
  obtain ⟨pX, qX, rX, xX, aX, nX, cX, rfl, hX⟩ := hX
  have oX := (Blk.new w 33 #[.slice pX qX rX, .bool xX, .slice aX nX cX])
  have hbw : Below w.heap.size w (w.alloc (.cells #[.slice pX qX rX, .bool xX, .slice aX nX cX] 33 (0, 0))) := by go_grown
  replace hX := hX.below hbw
  have ltX := oX.lt
  have lwX : w.heap.size ≤ w.heap.size := by omega
  go_enter Tryz.func69, Tryz.ntmps69
  obtain ⟨Xc0, Xc1, Xc2⟩ := oX.three
  obtain ⟨Xk0, Xk1, Xk2⟩ := oX.frozen3
  go_wp2_with fail
  refine (search_any _ a v _ hX.pts hX.fine).mono ?_
  rintro e w1 ⟨rfl, hb⟩
  clear Xc0 Xc1 Xc2 Xk0 Xk1 Xk2
  replace oX := oX.stay hb
  replace ltX := oX.lt
  replace hX := hX.below hb
  replace hbw := hbw.step hb (Nat.le_refl _)
  clear hb
  go_wp2
  go_ret2
  exact ⟨rfl, hbw⟩

set_option maxRecDepth 20000 in
set_option maxHeartbeats 8000000 in
theorem lcoef_any (vX : Value) (a : List (Nat × Int)) (r v : Int) (w : World) (hX : TermR w vX a r) :
    Calls Tryz.prog 33 #[vX, .int .i64 v] w fun e w' => ∃ x m n c, e = .returned (.agg #[.bool x, .slice m n c]) ∧ AInt w' (.agg #[.bool x, .slice m n c]) (coefZ a v) ∧ Below w.heap.size w w' := by
  obtain ⟨pX, qX, rX, xX, aX, nX, cX, rfl, hX⟩ := hX
  have ha0 := hX.arr
  have oX := ((Blk.new w 33 #[.slice pX qX rX, .bool xX, .slice aX nX cX]).alloc (.cells #[.bool false, .slice none 0 0] 31 (0, 0)))
  have oR := (Blk.new (w.alloc (.cells #[.slice pX qX rX, .bool xX, .slice aX nX cX] 33 (0, 0))) 31 #[.bool false, .slice none 0 0])
  simp only [World.size_alloc] at oR
  have hbw : Below w.heap.size w ((w.alloc (.cells #[.slice pX qX rX, .bool xX, .slice aX nX cX] 33 (0, 0))).alloc (.cells #[.bool false, .slice none 0 0] 31 (0, 0))) := by go_grown
  replace hX := hX.below hbw
  have ltX := oX.lt
  have lwX : w.heap.size ≤ w.heap.size := by omega
  have ltR := oR.lt
  have lwR : w.heap.size ≤ w.heap.size + 1 := by omega
  go_enter Tryz.func33, Tryz.ntmps33
  have HX : Hid (PArr w pX a) := ha0
  have HLN : Hid (a.length = qX) := hX.len
  have HFN : Hid (Fine a) := hX.fine
  clear ha0
  obtain ⟨Xc0, Xc1, Xc2⟩ := oX.three
  obtain ⟨Xk0, Xk1, Xk2⟩ := oX.frozen3
  go_wp2_with fail
  refine (place_any _ a r v _ hX.val).mono ?_
  rintro e w1 ⟨rfl, hb⟩
  clear Xc0 Xc1 Xc2 Xk0 Xk1 Xk2
  replace oX := oX.stay hb
  replace ltX := oX.lt
  replace oR := oR.stay hb
  replace ltR := oR.lt
  replace hX := hX.below hb
  replace hbw := hbw.step hb (Nat.le_refl _)
  clear hb
  by_cases hth : ∃ p ∈ a, (p.1 : Int) = v
  · have hd : decide (∃ p ∈ a, (p.1 : Int) = v) = true := decide_eq_true hth
    obtain ⟨⟨v9, z9⟩, hp9, hv9⟩ := hth
    have H9 : Hid (ahead a v < a.length ∧ a.getD (ahead a v) (0, 0) = (v9, z9) ∧ coefZ a v = z9) := ahead_there HFN.out.1 hp9 hv9
    clear hp9 hv9
    obtain ⟨i, hi⟩ : ∃ i, i = ahead a v := ⟨_, rfl⟩
    rw [← hi] at H9 ⊢
    have hiq : i < qX := by have := H9.out.1; rw [HLN.out] at this; exact this
    clear hi
    obtain ⟨gE, oE, sE, aE, mE, cE, had, k1, k2, k3, k4⟩ := HX.out.at i (by rw [HLN.out]; exact hiq)
    subst had
    obtain ⟨pv, hpv⟩ : ∃ x9, x9 = (a.getD i (0, 0)).1 := ⟨_, rfl⟩
    obtain ⟨pz, hpz⟩ : ∃ x9, x9 = (a.getD i (0, 0)).2 := ⟨_, rfl⟩
    rw [← hpv] at k1
    rw [← hpz] at k4
    have HPV : Hid (a.getD i (0, 0) = (pv, pz)) := by show _ = _; rw [hpv, hpz]
    clear hpv hpz
    have A0 := (hbw.cell (p := ⟨gE, oE + i * 3, none⟩) (World.block_lt_of_cell? w _ k1)).trans k1
    have A1 := (hbw.cell (p := ⟨gE, oE + i * 3 + 1, none⟩) (World.block_lt_of_cell? w _ k2)).trans k2
    have A2 := (hbw.cell (p := ⟨gE, oE + i * 3 + 2, none⟩) (World.block_lt_of_cell? w _ k3)).trans k3
    have hE0 := k4.below hbw
    clear k1 k2 k3 k4
    have HZ : Hid (coefZ a v = pz) := by show _ = _; have h := H9.out.2.1; rw [HPV.out] at h; injection h with h1 h2; rw [H9.out.2.2, h2]
    obtain ⟨Xc0, Xc1, Xc2⟩ := oX.three
    obtain ⟨Xk0, Xk1, Xk2⟩ := oX.frozen3
    obtain ⟨Rc0, Rc1, Rk0, Rk1⟩ := oR.two
    try simp only []
    try go_at_K
    repeat (first | go_values | go_skip | go_guarded | go_step | go_upon)
    refine bodyPost_ret (v := .agg #[.bool sE, .slice aE mE cE]) (by simp [results, Tryz.results33, go_sem, Rc0, Rc1]) rfl ?_
    obtain ⟨K1, B1, _⟩ := resI (by decide) (by decide) oR hbw lwR sE aE mE cE
    rw [HZ.out]
    exact ⟨_, _, _, _, rfl, hE0.keepP K1, B1⟩
  · have hd : decide (∃ p ∈ a, (p.1 : Int) = v) = false := decide_eq_false hth
    have HZ : Hid (coefZ a v = 0) := coefZ_not hth
    clear hth
    obtain ⟨Rc0, Rc1, Rk0, Rk1⟩ := oR.two
    try simp only []
    try go_at_K
    repeat (first | go_values | go_skip | go_guarded | go_step | go_upon)
    refine bodyPost_ret (v := .agg #[.bool false, .slice none 0 0]) (by simp [results, Tryz.results33, go_sem, Rc0, Rc1]) rfl ?_
    obtain ⟨K1, B1, _⟩ := resI (by decide) (by decide) oR hbw lwR false none 0 0
    rw [HZ.out]
    exact ⟨_, _, _, _, rfl, AInt.zero _, B1⟩

end Go.Proofs.YteefniagebcagaaGreatDoor
