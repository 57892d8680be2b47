/- Contract of suretyref03's Coef; they prove no statement of the seat. -/
import Derived.Test.YteefniagebcagaaGreatDoorRefDJTells
namespace Go.Proofs.YteefniagebcagaaGreatDoor
open Go.RowKit
set_option linter.unusedVariables false

theorem coefZ_here {a : List (Nat × Int)} {k pv : Nat} {pz v : Int} (hr : Rise a) (hk : k < a.length) (hp : a.getD k (0, 0) = (pv, pz)) (hv : (pv : Int) = v) : coefZ a v = pz := by
  subst hv
  unfold coefZ
  rw [if_pos (by omega), show ((pv : Int)).toNat = pv from rfl]
  exact coef_mem hr (p := (pv, pz)) (by rw [split_at hk hp]; simp)

set_option maxRecDepth 20000 in
set_option maxHeartbeats 8000000 in
theorem rcoef_any (vX : Value) (a : List (Nat × Int)) (r v : Int) (w : World) (hX : RTermR w vX a r) :
    Calls Tryz.prog 34 #[vX, .int .i64 v] w fun e w' => ∃ x m n c, e = .returned (.agg #[.bool x, .slice m n c]) ∧ RNum w' (.agg #[.bool x, .slice m n c]) (coefZ a v) 400 ∧ Below w.heap.size w w' := by
  obtain ⟨pX, qX, rX, xX, aX, nX, cX, rfl, hX⟩ := hX
  have ha0 := hX.arr
  have oX := ((Blk.new w 41 #[.slice pX qX rX, .bool xX, .slice aX nX cX]).alloc (.cells #[.bool false, .slice none 0 0] 39 (0, 0)))
  have oR := (Blk.new (w.alloc (.cells #[.slice pX qX rX, .bool xX, .slice aX nX cX] 41 (0, 0))) 39 #[.bool false, .slice none 0 0])
  simp only [World.size_alloc] at oR
  have hbw : Below w.heap.size w ((w.alloc (.cells #[.slice pX qX rX, .bool xX, .slice aX nX cX] 41 (0, 0))).alloc (.cells #[.bool false, .slice none 0 0] 39 (0, 0))) := by go_grown
  replace hX := hX.below hbw
  have ltX := oX.lt
  have lwX : w.heap.size ≤ w.heap.size := by omega
  have ltR := oR.lt
  have lwR : w.heap.size ≤ w.heap.size + 1 := by omega
  go_enter Tryz.func34, Tryz.ntmps34
  have HX : Hid (QArr w pX a) := ha0
  have HLN : Hid (a.length = qX) := hX.len
  have hlen := hX.n_le
  have HFA : Hid (Fine a) := hX.fine
  clear ha0 hX
  obtain ⟨Xc0, Xc1, Xc2⟩ := oX.three
  obtain ⟨Xk0, Xk1, Xk2⟩ := oX.frozen3
  go_wp2
  go_loopw [5] (fun i wl => ∃ (k : Nat), k ≤ qX ∧ i = .int .i64 k ∧ Blk 41 wl w.heap.size #[.slice pX qX rX, .bool xX, .slice aX nX cX] ∧ Blk 39 wl (w.heap.size + 1) #[.bool false, .slice none 0 0] ∧ Hid (∀ p ∈ a.take k, (p.1 : Int) ≠ v) ∧ Below w.heap.size w wl) (fun i _ => qX - (intOf i).toNat)
  case atStart => exact ⟨0, Nat.zero_le _, rfl, oX, oR, (fun p hp => by simp at hp), hbw⟩
  case round =>
    rename World => wl
    clear oX oR hbw ltX ltR Xc0 Xc1 Xc2 Xk0 Xk1 Xk2
    obtain ⟨k, hk, h8, oX, oR, HI, hbw⟩ := hrel
    subst h8
    have ltX := oX.lt
    have ltR := oR.lt
    by_cases h0 : k < qX
    · obtain ⟨gE, oE, sE, aE, mE, cE, had, k1, k2, k3, k4⟩ := HX.out.at k (by rw [HLN.out]; exact h0)
      subst had
      obtain ⟨pv, hpv⟩ : ∃ x9, x9 = (a.getD k (0, 0)).1 := ⟨_, rfl⟩
      obtain ⟨pz, hpz⟩ : ∃ x9, x9 = (a.getD k (0, 0)).2 := ⟨_, rfl⟩
      rw [← hpv] at k1
      rw [← hpz] at k4
      have HPV : Hid (a.getD k (0, 0) = (pv, pz)) := by show _ = _; rw [hpv, hpz]
      clear hpv hpz
      have HPF : Hid (pz ≠ 0 ∧ pz.natAbs < lim ∧ pv < 4096) := HFA.out.at (by rw [HLN.out]; exact h0) HPV.out
      have A0 := (hbw.cell (p := ⟨gE, oE + k * 3, none⟩) (World.block_lt_of_cell? w _ k1)).trans k1
      have A1 := (hbw.cell (p := ⟨gE, oE + k * 3 + 1, none⟩) (World.block_lt_of_cell? w _ k2)).trans k2
      have A2 := (hbw.cell (p := ⟨gE, oE + k * 3 + 2, none⟩) (World.block_lt_of_cell? w _ k3)).trans k3
      by_cases hv : (pv : Int) = v
      · have HC : Hid (coefZ a v = pz) := coefZ_here HFA.out.1 (by rw [HLN.out]; exact h0) HPV.out hv
        have hE0 := k4.below hbw
        obtain ⟨Xc0, Xc1, Xc2⟩ := oX.three
        obtain ⟨Xk0, Xk1, Xk2⟩ := oX.frozen3
        obtain ⟨Rc0, Rc1, Rk0, Rk1⟩ := oR.two
        try simp only []
        try go_at_K
        repeat (first | go_values | go_skip | go_guarded | go_step | go_upon)
        refine bodyPost_ret (v := .agg #[.bool sE, .slice aE mE cE]) (by simp [results, Tryz.results34, go_sem, Rc0, Rc1]) rfl ?_
        obtain ⟨K1, B1, _⟩ := resNq (by decide) (by decide) oR hbw lwR sE aE mE cE
        exact ⟨sE, aE, mE, cE, rfl, by rw [HC.out]; exact (hE0.short HPF.out.2.1).keepQ K1, B1⟩
      · have HV : Hid (¬ (pv : Int) = v) := hv
        obtain ⟨Xc0, Xc1, Xc2⟩ := oX.three
        obtain ⟨Xk0, Xk1, Xk2⟩ := oX.frozen3
        go_wp2
        go_roundw
        case rel =>
          refine ⟨k + 1, by omega, by go_num, oX, oR, ?_, hbw⟩
          intro p hp
          rw [take_one (by rw [HLN.out]; exact h0) HPV.out] at hp
          rcases List.mem_append.1 hp with h | h
          · exact HI.out p h
          · rw [List.mem_singleton.1 h]; exact HV.out
        case measure => simp [intOf]; omega
    · have HC : Hid (coefZ a v = 0) := coefZ_not (fun ⟨p, hp, hv⟩ => HI.out p (by rw [List.take_of_length_le (by rw [HLN.out]; omega)]; exact hp) hv)
      obtain ⟨Xc0, Xc1, Xc2⟩ := oX.three
      obtain ⟨Xk0, Xk1, Xk2⟩ := oX.frozen3
      obtain ⟨Rc0, Rc1, Rk0, Rk1⟩ := oR.two
      try simp only []
      try go_at_K
      repeat (first | go_values | go_skip | go_guarded | go_step | go_upon)
      refine bodyPost_ret (v := .agg #[.bool false, .slice none 0 0]) (by simp [results, Tryz.results34, go_sem, Rc0, Rc1]) rfl ?_
      obtain ⟨K1, B1, _⟩ := resNq (by decide) (by decide) oR hbw lwR false none 0 0
      exact ⟨false, none, 0, 0, rfl, by rw [HC.out]; exact RNum.zeroN _ _, B1⟩

end Go.Proofs.YteefniagebcagaaGreatDoor
