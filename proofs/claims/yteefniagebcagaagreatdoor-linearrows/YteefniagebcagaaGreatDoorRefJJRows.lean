/- Contract of suretyref03's Read; they prove no statement of the seat. -/
import Derived.Test.YteefniagebcagaaGreatDoorJoin26Rows
import Derived.Test.YteefniagebcagaaGreatDoorJoin22Rows
namespace Go.Proofs.YteefniagebcagaaGreatDoor
open Go.RowKit
set_option linter.unusedVariables false

theorem with_read {cs : List (Nat × Int)} (hr : Rise cs) (v : Nat) (z : Int) : addP (nz cs) (one v z) = nz (setL cs v (coef cs v + z)) := by
  have hnr : Rise (nz cs) := List.Pairwise.sublist List.filter_sublist hr
  have hnn : ∀ p ∈ nz cs, p.2 ≠ 0 := fun p hp => of_decide_eq_true (List.mem_filter.1 hp).2
  have hsr := setL_rise hr v (coef cs v + z)
  have hs2 : Rise (nz (setL cs v (coef cs v + z))) := List.Pairwise.sublist List.filter_sublist hsr
  refine rn_eq (addP_rise _ _ hnr (one_rise _ _)) (addP_nz _ _ hnn (one_nz _ _)) hs2 (fun p hp => of_decide_eq_true (List.mem_filter.1 hp).2) (fun u => ?_)
  rw [addP_coef _ _ hnr (one_rise _ _), nz_coef cs hr, nz_coef _ hsr, one_coef, setL_coef]
  by_cases h : v = u
  · subst h; rw [if_pos rfl, if_pos rfl]
  · rw [if_neg h, if_neg h, Int.add_zero]
/-- How far Read has come. -/
def GSt (cs : List (Nat × Int)) : Prop := Rise cs ∧ (∀ p ∈ cs, p.1 < 4096) ∧ ∀ p ∈ cs, p.2.natAbs < lim
theorem GSt.nz_rise {cs : List (Nat × Int)} (h : GSt cs) : Fine (nz cs) := nz_fine h.1 h.2.1 h.2.2
theorem GSt.step {cs : List (Nat × Int)} (h : GSt cs) {v : Nat} (hv : v < 4096) {z : Int} (hz' : z.natAbs < lim) : GSt (setL cs v z) := by
  refine ⟨setL_rise h.1 v z, fun p hp => ?_, fun p hp => ?_⟩
  · rcases setL_mem hp with rfl | k
    · exact hv
    · exact h.2.1 p k
  · rcases setL_mem hp with rfl | k
    · exact hz'
    · exact h.2.2 p k
theorem with_rd (aX : Option Addr) (nX cX : Nat) (cs : List (Nat × Int)) (v : Nat) (xC : Bool) (aC : Option Addr) (nC cC : Nat) (z : Int) (w : World) (hg : GSt cs) (ha : QArr w aX (nz cs)) (hl : (nz cs).length = nX) (hC : RNum w (.agg #[.bool xC, .slice aC nC cC]) z 400) (hz9 : z.natAbs < lim) :
    Calls Tryz.prog 59 #[.slice aX nX cX, .int .i64 (v : Nat), .agg #[.bool xC, .slice aC nC cC]] w fun e w' => ∃ u, e = .returned (.tuple #[u, .bool (decide ((coef cs v + z).natAbs < lim))]) ∧ QTS (nz (setL cs v (coef cs v + z))) u w' ∧ Below w.heap.size w w' := by
  have hf := hg.nz_rise
  refine (with_r aX nX cX (nz cs) v xC aC nC cC z w ha hl hf.1 (fun p hp => (hf.2 p hp).1) (by rw [← hl]; have := hf.len; omega) hC hz9 (fine_coef hf v)).mono ?_
  rintro e w' ⟨u, b9, rfl, h1, rfl, hb⟩
  rw [nz_coef cs hg.1]
  rw [with_read hg.1] at h1
  exact ⟨u, rfl, h1, hb⟩

set_option maxRecDepth 20000 in
set_option maxHeartbeats 16000000 in
theorem rread_any (aX : Option Addr) (nX cX : Nat) (S : ByteArray) (ms : List (Int × ByteArray)) (w : World) (hm : MArr w aX ms) (hl : ms.length = nX) (hs : ms.length ≤ 4096 → ∀ p ∈ ms, p.2.size ≤ 10000) (hz : S.size ≤ 10000) :
    Calls Tryz.prog 41 #[.agg #[.slice aX nX cX, .string S]] w fun e w' => ∃ v, e = .returned (.tuple #[v, .int .i64 (rdE ms S)]) ∧ RTermR w' v (rdP ms S) (rdM ms S) ∧ Below w.heap.size w w' := by
  have oX := ((Blk.new w 79 #[.slice aX nX cX, .string S]).alloc (.cells #[.slice none 0 0, .bool false, .slice none 0 0] 86 (0, 0)))
  have oR := (Blk.new (w.alloc (.cells #[.slice aX nX cX, .string S] 79 (0, 0))) 86 #[.slice none 0 0, .bool false, .slice none 0 0])
  simp only [World.size_alloc] at oR
  have hbw : Below w.heap.size w ((w.alloc (.cells #[.slice aX nX cX, .string S] 79 (0, 0))).alloc (.cells #[.slice none 0 0, .bool false, .slice none 0 0] 86 (0, 0))) := by go_grown
  have ltX := oX.lt
  have lwX : w.heap.size ≤ w.heap.size := by omega
  have ltR := oR.lt
  have lwR : w.heap.size ≤ w.heap.size + 1 := by omega
  have HM : Hid (MArr w aX ms) := hm
  have HLN : Hid (ms.length = nX) := hl
  have HS : Hid (ms.length ≤ 4096 → ∀ p ∈ ms, p.2.size ≤ 10000) := hs
  clear hm hl hs
  go_enter Tryz.func41, Tryz.ntmps41
  by_cases h4 : 4096 < nX
  · have h4i : (4096 : Int) < nX := by omega
    have HNE : Hid ((2 : Int) ≠ 0) := by show _ ≠ _; decide
    have H4 : Hid (4096 < ms.length) := by show _ < _; rw [HLN.out]; exact h4
    obtain ⟨Xc0, Xc1, Xk0, Xk1⟩ := oX.two
    obtain ⟨Rc0, Rc1, Rc2⟩ := oR.three
    obtain ⟨Rk0, Rk1, Rk2⟩ := oR.frozen3
    try simp only []
    try go_at_K
    repeat (first | go_values | go_skip | go_guarded | go_step | go_upon)
    refine bodyPost_ret (v := .tuple #[.agg #[.slice none 0 0, .bool false, .slice none 0 0], .int .i64 2]) (by simp [results, Tryz.results41, go_sem, Rc0, Rc1, Rc2]) rfl ?_
    have hE : rdE ms S = 2 := if_pos H4.out
    have hP : rdP ms S = [] := if_neg (by rw [hE]; exact HNE.out)
    have hM : rdM ms S = 0 := if_neg (by rw [hE]; exact HNE.out)
    rw [hE, hP, hM]
    exact ⟨_, rfl, (RTP.zero _).val, hbw⟩
  · have h4i : ¬ (4096 : Int) < nX := by omega
    have H4 : Hid (¬ 4096 < ms.length) := by show ¬ _; rw [HLN.out]; exact h4
    obtain ⟨Xc0, Xc1, Xk0, Xk1⟩ := oX.two
    go_wp2_with fail
    refine (rparse_h S _ hz).mono ?_
    rintro e w1 ⟨xM, aM, nM, cM, rfl, hMo, hb⟩
    clear Xc0 Xc1 Xk0 Xk1
    replace oX := oX.stay hb
    replace ltX := oX.lt
    replace oR := oR.stay hb
    replace ltR := oR.lt
    replace hbw := hbw.step hb (Nat.le_refl _)
    clear hb
    have hn := below_new w1 (.cells #[.bool xM, .slice aM nM cM] 39 (0, 0))
    have oM := Blk.new w1 39 #[.bool xM, .slice aM nM cM]
    have neXM : w.heap.size ≠ w1.heap.size := by have := ltX; (try simp at this); omega
    have neRM : w.heap.size + 1 ≠ w1.heap.size := by have := ltR; (try simp at this); omega
    have lwM : w.heap.size ≤ w1.heap.size := by have := hbw.size; (try simp at this); omega
    replace oX := oX.stay hn
    replace ltX := oX.lt
    replace oR := oR.stay hn
    replace ltR := oR.lt
    replace hMo := hMo.below hn
    replace hbw := hbw.step hn (Nat.le_refl _)
    clear hn
    have ltM := oM.lt
    obtain ⟨co, hco⟩ : ∃ co, co = pcd S := ⟨_, rfl⟩
    have HCO : Hid (pcd S = co) := hco.symm
    rw [← hco]
    clear hco
    by_cases hc : co = 0
    · subst hc
      obtain ⟨m0, hm9⟩ : ∃ m0, m0 = pzd S := ⟨_, rfl⟩
      have HMZ : Hid (pzd S = m0) := hm9.symm
      rw [← hm9] at hMo
      have HML : Hid (m0.natAbs < lim) := by show _ < _; rw [hm9]; exact pzd_lim S
      clear hm9
      obtain ⟨Mc0, Mc1, Mk0, Mk1⟩ := oM.two
      have hn := below_new (w1.alloc (.cells #[.bool xM, .slice aM nM cM] 39 (0, 0))) (.cells #[.slice none 0 0, .bool xM, .slice aM nM cM] 86 (0, 0))
      have oO := Blk.new (w1.alloc (.cells #[.bool xM, .slice aM nM cM] 39 (0, 0))) 86 #[.slice none 0 0, .bool xM, .slice aM nM cM]
      simp only [World.size_alloc] at oO
      have neXO : w.heap.size ≠ w1.heap.size + 1 := by have := ltX; (try simp at this); omega
      have neRO : w.heap.size + 1 ≠ w1.heap.size + 1 := by have := ltR; (try simp at this); omega
      have neMO : w1.heap.size ≠ w1.heap.size + 1 := by have := ltM; (try simp at this); omega
      have lwO : w.heap.size ≤ w1.heap.size + 1 := by have := hbw.size; (try simp at this); omega
      replace oX := oX.stay hn
      replace ltX := oX.lt
      replace oR := oR.stay hn
      replace ltR := oR.lt
      replace oM := oM.stay hn
      replace ltM := oM.lt
      replace hMo := hMo.below hn
      replace hbw := hbw.step hn (Nat.le_refl _)
      clear hn
      have ltO := oO.lt
      clear Mc0 Mc1 Mk0 Mk1
      have HRD : Hid (rdE ms S = (gth ms []).1) := by show _ = _; unfold rdE; rw [if_neg H4.out, HCO.out, if_neg (by simp)]
      obtain ⟨Xc0, Xc1, Xk0, Xk1⟩ := oX.two
      obtain ⟨Mc0, Mc1, Mk0, Mk1⟩ := oM.two
      go_wp2
      go_loopw [7] (fun i wl => ∃ (k : Nat) (cs : List (Nat × Int)) (u0 : Value), k ≤ nX ∧ i = .int .i64 k ∧ Blk 79 wl w.heap.size #[.slice aX nX cX, .string S] ∧ Blk 86 wl (w.heap.size + 1) #[.slice none 0 0, .bool false, .slice none 0 0] ∧ Blk 86 wl (w1.heap.size + 1) #[u0, .bool xM, .slice aM nM cM] ∧ QTS (nz cs) u0 wl ∧ RNum wl (.agg #[.bool xM, .slice aM nM cM]) m0 400 ∧ Hid (GSt cs) ∧ Hid (gth ms [] = gth (ms.drop k) cs) ∧ Below w.heap.size w wl) (fun i _ => nX - (intOf i).toNat)
      case atStart => exact ⟨0, [], _, Nat.zero_le _, rfl, oX, oR, oO, ⟨_, _, _, rfl, rfl, Nat.le_refl _, Nat.zero_le _, fun _ => rfl, Or.inl rfl⟩, hMo, ⟨List.Pairwise.nil, (fun p hp => by cases hp), fun p hp => by cases hp⟩, rfl, hbw⟩
      case round =>
        rename World => wl
        clear oX oR oO oM hbw hMo ltX ltR ltO ltM Xc0 Xc1 Xk0 Xk1 Mc0 Mc1 Mk0 Mk1
        obtain ⟨k, cs, u0, hk, h8, oX, oR, oO, hQ, hMo, HG, HI, hbw⟩ := hrel
        subst h8
        have ltX := oX.lt
        have ltR := oR.lt
        have ltO := oO.lt
        obtain ⟨bO, hbO⟩ : ∃ b, b = w1.heap.size + 1 := ⟨_, rfl⟩
        rw [← hbO] at oO ltO neXO neRO lwO ⊢
        clear hbO
        obtain ⟨pU, qU, rU, rfl, hq1, hq2, hq3, hq4, hq5⟩ := hQ
        have hQ : QTS (nz cs) (.slice pU qU rU) wl := ⟨_, _, _, rfl, hq1, hq2, hq3, hq4, hq5⟩
        have HQL : Hid ((nz cs).length = qU) := hq1
        clear hq1 hq2 hq3 hq4
        by_cases h0 : k < nX
        · obtain ⟨gE, oE, had, k1, k2⟩ := HM.out.at k (by rw [HLN.out]; exact h0)
          subst had
          obtain ⟨v, hpv⟩ : ∃ x9, x9 = (ms.getD k (0, ⟨#[]⟩)).1 := ⟨_, rfl⟩
          obtain ⟨T, hps⟩ : ∃ x9, x9 = (ms.getD k (0, ⟨#[]⟩)).2 := ⟨_, rfl⟩
          rw [← hpv] at k1
          rw [← hps] at k2
          have HPV : Hid (ms.getD k (0, ⟨#[]⟩) = (v, T)) := by show _ = _; rw [hpv, hps]
          clear hpv hps
          have HST : Hid (gth ms [] = if ¬ (0 ≤ v ∧ v < 4096) then (30, []) else if pcd T ≠ 0 then (pcd T, []) else if ¬ (coef cs v.toNat + pzd T).natAbs < lim then (11, []) else gth (ms.drop (k + 1)) (setL cs v.toNat (coef cs v.toNat + pzd T))) := HI.out.trans (gth_step (by rw [HLN.out]; exact h0) HPV.out cs)
          have A0 := (hbw.cell (p := ⟨gE, oE + k * 2, none⟩) (World.block_lt_of_cell? w _ k1)).trans k1
          by_cases hv : 0 ≤ v ∧ v < 4096
          · obtain ⟨u, rfl⟩ : ∃ u : Nat, v = u := ⟨v.toNat, by omega⟩
            have hu9 : u < 4096 := by omega
            have hv1 : ¬ (u : Int) < 0 := by omega
            have hv2 : ¬ (4096 : Int) ≤ u := by omega
            have HV : Hid (0 ≤ (u : Int) ∧ (u : Int) < 4096) := hv
            clear hv
            have A1 := (hbw.cell (p := ⟨gE, oE + k * 2 + 1, none⟩) (World.block_lt_of_cell? w _ k2)).trans k2
            have hsz : T.size ≤ 10000 := by
              have hmem : ((u : Int), T) ∈ ms := by have h := HPV.out; rw [List.getD_eq_getElem?_getD, List.getElem?_eq_getElem (by rw [HLN.out]; exact h0)] at h; simp at h; rw [← h]; exact List.getElem_mem _
              have hl9 := HLN.out
              exact HS.out (by omega) _ hmem
            obtain ⟨Xc0, Xc1, Xk0, Xk1⟩ := oX.two
            go_wp2_with fail
            refine (rparse_h T _ hsz).mono ?_
            rintro e w2 ⟨xP9, aP, nP, cP, rfl, hP, hb⟩
            clear Xc0 Xc1 Xk0 Xk1
            replace oX := oX.stay hb
            replace ltX := oX.lt
            replace oR := oR.stay hb
            replace ltR := oR.lt
            replace oO := oO.stay hb
            replace ltO := oO.lt
            replace hQ := hQ.below hb
            replace hq5 := hq5.below hb
            replace hMo := hMo.below hb
            replace hbw := hbw.step hb (Nat.le_refl _)
            clear hb
            clear A0 A1
            have hn := below_new w2 (.cells #[.bool xP9, .slice aP nP cP] 39 (0, 0))
            have oP := Blk.new w2 39 #[.bool xP9, .slice aP nP cP]
            have neXP : w.heap.size ≠ w2.heap.size := by have := ltX; (try simp at this); omega
            have neRP : w.heap.size + 1 ≠ w2.heap.size := by have := ltR; (try simp at this); omega
            have neOP : bO ≠ w2.heap.size := by have := ltO; (try simp at this); omega
            have lwP : w.heap.size ≤ w2.heap.size := by have := hbw.size; (try simp at this); omega
            replace oX := oX.stay hn
            replace ltX := oX.lt
            replace oR := oR.stay hn
            replace ltR := oR.lt
            replace oO := oO.stay hn
            replace ltO := oO.lt
            replace hQ := hQ.below hn
            replace hq5 := hq5.below hn
            replace hMo := hMo.below hn
            replace hP := hP.below hn
            replace hbw := hbw.step hn (Nat.le_refl _)
            clear hn
            have ltP := oP.lt
            obtain ⟨co, hco⟩ : ∃ co, co = pcd T := ⟨_, rfl⟩
            obtain ⟨z, hzz⟩ : ∃ z, z = pzd T := ⟨_, rfl⟩
            rw [← hco] at HST ⊢
            rw [← hzz] at HST hP
            have HZL : Hid (z.natAbs < lim) := by show _ < _; rw [hzz]; exact pzd_lim T
            clear hco hzz
            by_cases hc : co = 0
            · subst hc
              go_wp2
              generalize (w2.alloc (.cells #[.bool xP9, .slice aP nP cP] 39 (0, 0))) = W2 at hbw oX oR oO oP ltX ltR ltO ltP hQ hq5 hMo hP ⊢
              have hbW := hbw
              refine wp_region_M (by kernel_rfl) [10, 11, 67, 68, 69, 70, 71, 72, 73, 74, 75, 76, 77, 78, 79] [none, none, none, none, none, none, none, none, none, none, some 10, some 11, none, none, none, none, none, none, none, none, none, none, none, none, none, none, none, none, none, none, none, none, none, none, none, none, none, none, none, none, none, none, none, none, none, none, none, none, none, none, none, none, none, none, none, none, none, none, none, none, none, none, none, none, none, none, none, some 67, some 68, some 69, some 70, some 71, some 72, some 73, some 74, some 75, some 76, some 77, some 78, some 79] (fun U => by kernel_rfl) (fun L U wr => Below w.heap.size w wr ∧ KeepB W2 wr ∧ W2.heap.size ≤ wr.heap.size ∧ Blk 79 wr (w.heap.size) #[.slice (some ⟨gE, oE, none⟩) nX cX, .string S] ∧ Blk 86 wr (w.heap.size + 1) #[.slice none 0 0, .bool false, .slice none 0 0] ∧ Blk 86 wr (bO) #[.slice pU qU rU, .bool xM, .slice aM nM cM] ∧ Blk 39 wr (w2.heap.size) #[.bool xP9, .slice aP nP cP] ∧ (L 0 = true → IS (.pointer (some ⟨bO, 0, none⟩)) (U 68) wr) ∧ (L 1 = true → IS (.slice pU qU rU) (U 69) wr) ∧ (L 2 = true → IS (.pointer (some ⟨w.heap.size, 0, none⟩)) (U 70) wr) ∧ (L 3 = true → IS (.slice (some ⟨gE, oE, none⟩) nX cX) (U 71) wr) ∧ (L 4 = true → IS (.int .i64 k) (U 72) wr) ∧ (L 5 = true → IS (.pointer (some ⟨gE, oE + k * 2, none⟩)) (U 73) wr) ∧ (L 6 = true → IS (.pointer (some ⟨gE, oE + k * 2, none⟩)) (U 74) wr) ∧ (L 7 = true → IS (.int .i64 (u : Nat)) (U 75) wr) ∧ (L 8 = true → IS (.agg #[.bool xP9, .slice aP nP cP]) (U 76) wr) ∧ (L 9 = true → T2 (QTS (nz (setL cs u (coef cs u + z)))) (IS (.bool (decide ((coef cs u + z).natAbs < lim)))) (U 77) wr) ∧ (L 10 = true → T2 (QTS (nz (setL cs u (coef cs u + z)))) (IS (.bool (decide ((coef cs u + z).natAbs < lim)))) (U 67) wr) ∧ (L 11 = true → QTS (nz (setL cs u (coef cs u + z))) (U 78) wr) ∧ (L 12 = true → IS (.bool (decide ((coef cs u + z).natAbs < lim))) (U 79) wr) ∧ (L 13 = true → QTS (nz (setL cs u (coef cs u + z))) (U 10) wr) ∧ (L 14 = true → IS (.bool (decide ((coef cs u + z).natAbs < lim))) (U 11) wr)) (by kernel_rfl) ?_ ?_ ?_
              · exact fun U => ⟨hbw.drew, KeepB.below (Below.refl _ _).drew, Nat.le_refl _, oX.drew, oR.drew, oO.drew, oP.drew, (fun h => by cases h), (fun h => by cases h), (fun h => by cases h), (fun h => by cases h), (fun h => by cases h), (fun h => by cases h), (fun h => by cases h), (fun h => by cases h), (fun h => by cases h), (fun h => by cases h), (fun h => by cases h), (fun h => by cases h), (fun h => by cases h), (fun h => by cases h), (fun h => by cases h)⟩
              · refine StepsU.run rfl ?_ ?_
                · intro L U wr hF hlk haf A K hA hK
                  have HA : Hid (A = putAll _ _ U) := hA
                  clear hA
                  simp [Aft, Region.binds] at haf
                  obtain ⟨fb, fk, fs, oX, oR, oO, oP, f0, f1, f2, f3, f4, f5, f6, f7, f8, f9, f10, f11, f12, f13, f14⟩ := hF
                  have e6 : A.tmps[6]? = some (.pointer (some ⟨bO, 0, none⟩)) := by rw [HA.out]; kernel_rfl
                  refine ⟨?_⟩
                  go_simp
                  refine hK (upd U 68 (.pointer (some ⟨bO, 0, none⟩))) _ _ ?_ ?_
                  · rw [HA.out]; kernel_rfl
                  · exact ⟨fb, fk, fs, oX, oR, oO, oP, (fun _ => rfl), f1, f2, f3, f4, f5, f6, f7, f8, f9, f10, f11, f12, f13, f14⟩
                refine StepsU.run rfl ?_ ?_
                · intro L U wr hF hlk haf A K hA hK
                  have HA : Hid (A = putAll _ _ U) := hA
                  clear hA
                  simp [Aft, Region.binds] at haf
                  obtain ⟨fb, fk, fs, oX, oR, oO, oP, f0, f1, f2, f3, f4, f5, f6, f7, f8, f9, f10, f11, f12, f13, f14⟩ := hF
                  have g0 := f0 (by simp [haf])
                  have e68 := rd HA.out 68 (by kernel_rfl) g0
                  have c0 := Blk.cell oO 0
                  simp at c0
                  refine ⟨?_⟩
                  go_simp
                  refine hK (upd U 69 (.slice pU qU rU)) _ _ ?_ ?_
                  · rw [HA.out]; kernel_rfl
                  · exact ⟨fb, fk, fs, oX, oR, oO, oP, f0, (fun _ => rfl), f2, f3, f4, f5, f6, f7, f8, f9, f10, f11, f12, f13, f14⟩
                refine StepsU.run rfl ?_ ?_
                · intro L U wr hF hlk haf A K hA hK
                  have HA : Hid (A = putAll _ _ U) := hA
                  clear hA
                  simp [Aft, Region.binds] at haf
                  obtain ⟨fb, fk, fs, oX, oR, oO, oP, f0, f1, f2, f3, f4, f5, f6, f7, f8, f9, f10, f11, f12, f13, f14⟩ := hF
                  have e1 : A.tmps[1]? = some (.pointer (some ⟨w.heap.size, 0, none⟩)) := by rw [HA.out]; kernel_rfl
                  refine ⟨?_⟩
                  go_simp
                  refine hK (upd U 70 (.pointer (some ⟨w.heap.size, 0, none⟩))) _ _ ?_ ?_
                  · rw [HA.out]; kernel_rfl
                  · exact ⟨fb, fk, fs, oX, oR, oO, oP, f0, f1, (fun _ => rfl), f3, f4, f5, f6, f7, f8, f9, f10, f11, f12, f13, f14⟩
                refine StepsU.run rfl ?_ ?_
                · intro L U wr hF hlk haf A K hA hK
                  have HA : Hid (A = putAll _ _ U) := hA
                  clear hA
                  simp [Aft, Region.binds] at haf
                  obtain ⟨fb, fk, fs, oX, oR, oO, oP, f0, f1, f2, f3, f4, f5, f6, f7, f8, f9, f10, f11, f12, f13, f14⟩ := hF
                  have g2 := f2 (by simp [haf])
                  have e70 := rd HA.out 70 (by kernel_rfl) g2
                  have c0 := Blk.cell oX 0
                  simp at c0
                  refine ⟨?_⟩
                  go_simp
                  refine hK (upd U 71 (.slice (some ⟨gE, oE, none⟩) nX cX)) _ _ ?_ ?_
                  · rw [HA.out]; kernel_rfl
                  · exact ⟨fb, fk, fs, oX, oR, oO, oP, f0, f1, f2, (fun _ => rfl), f4, f5, f6, f7, f8, f9, f10, f11, f12, f13, f14⟩
                refine StepsU.run rfl ?_ ?_
                · intro L U wr hF hlk haf A K hA hK
                  have HA : Hid (A = putAll _ _ U) := hA
                  clear hA
                  simp [Aft, Region.binds] at haf
                  obtain ⟨fb, fk, fs, oX, oR, oO, oP, f0, f1, f2, f3, f4, f5, f6, f7, f8, f9, f10, f11, f12, f13, f14⟩ := hF
                  have e7 : A.tmps[7]? = some (.int .i64 k) := by rw [HA.out]; kernel_rfl
                  refine ⟨?_⟩
                  go_simp
                  refine hK (upd U 72 (.int .i64 k)) _ _ ?_ ?_
                  · rw [HA.out]; kernel_rfl
                  · exact ⟨fb, fk, fs, oX, oR, oO, oP, f0, f1, f2, f3, (fun _ => rfl), f5, f6, f7, f8, f9, f10, f11, f12, f13, f14⟩
                refine StepsU.run rfl ?_ ?_
                · intro L U wr hF hlk haf A K hA hK
                  have HA : Hid (A = putAll _ _ U) := hA
                  clear hA
                  simp [Aft, Region.binds] at haf
                  obtain ⟨fb, fk, fs, oX, oR, oO, oP, f0, f1, f2, f3, f4, f5, f6, f7, f8, f9, f10, f11, f12, f13, f14⟩ := hF
                  have g3 := f3 (by simp [haf])
                  have g4 := f4 (by simp [haf])
                  have e71 := rd HA.out 71 (by kernel_rfl) g3
                  have e72 := rd HA.out 72 (by kernel_rfl) g4
                  refine ⟨?_⟩
                  go_simp
                  refine hK (upd U 73 (.pointer (some ⟨gE, oE + k * 2, none⟩))) _ _ ?_ ?_
                  · rw [HA.out]; kernel_rfl
                  · exact ⟨fb, fk, fs, oX, oR, oO, oP, f0, f1, f2, f3, f4, (fun _ => rfl), f6, f7, f8, f9, f10, f11, f12, f13, f14⟩
                refine StepsU.run rfl ?_ ?_
                · intro L U wr hF hlk haf A K hA hK
                  have HA : Hid (A = putAll _ _ U) := hA
                  clear hA
                  simp [Aft, Region.binds] at haf
                  obtain ⟨fb, fk, fs, oX, oR, oO, oP, f0, f1, f2, f3, f4, f5, f6, f7, f8, f9, f10, f11, f12, f13, f14⟩ := hF
                  have g5 := f5 (by simp [haf])
                  have e73 := rd HA.out 73 (by kernel_rfl) g5
                  refine ⟨?_⟩
                  go_simp
                  refine hK (upd U 74 (.pointer (some ⟨gE, oE + k * 2, none⟩))) _ _ ?_ ?_
                  · rw [HA.out]; kernel_rfl
                  · exact ⟨fb, fk, fs, oX, oR, oO, oP, f0, f1, f2, f3, f4, f5, (fun _ => rfl), f7, f8, f9, f10, f11, f12, f13, f14⟩
                refine StepsU.run rfl ?_ ?_
                · intro L U wr hF hlk haf A K hA hK
                  have HA : Hid (A = putAll _ _ U) := hA
                  clear hA
                  simp [Aft, Region.binds] at haf
                  obtain ⟨fb, fk, fs, oX, oR, oO, oP, f0, f1, f2, f3, f4, f5, f6, f7, f8, f9, f10, f11, f12, f13, f14⟩ := hF
                  have g6 := f6 (by simp [haf])
                  have kA0 := (fb.cell (p := ⟨gE, oE + k * 2, none⟩) (World.block_lt_of_cell? w _ k1)).trans k1
                  have e74 := rd HA.out 74 (by kernel_rfl) g6
                  refine ⟨?_⟩
                  go_simp
                  refine hK (upd U 75 (.int .i64 (u : Nat))) _ _ ?_ ?_
                  · rw [HA.out]; kernel_rfl
                  · exact ⟨fb, fk, fs, oX, oR, oO, oP, f0, f1, f2, f3, f4, f5, f6, (fun _ => rfl), f8, f9, f10, f11, f12, f13, f14⟩
                refine StepsU.run rfl ?_ ?_
                · intro L U wr hF hlk haf A K hA hK
                  have HA : Hid (A = putAll _ _ U) := hA
                  clear hA
                  simp [Aft, Region.binds] at haf
                  obtain ⟨fb, fk, fs, oX, oR, oO, oP, f0, f1, f2, f3, f4, f5, f6, f7, f8, f9, f10, f11, f12, f13, f14⟩ := hF
                  have e8 : A.tmps[8]? = some (.pointer (some ⟨w2.heap.size, 0, none⟩)) := by rw [HA.out]; kernel_rfl
                  have c0 := Blk.cell oP 0
                  have c1 := Blk.cell oP 1
                  simp at c0
                  simp at c1
                  refine ⟨?_⟩
                  go_simp
                  refine hK (upd U 76 (.agg #[.bool xP9, .slice aP nP cP])) _ _ ?_ ?_
                  · rw [HA.out]; kernel_rfl
                  · exact ⟨fb, fk, fs, oX, oR, oO, oP, f0, f1, f2, f3, f4, f5, f6, f7, (fun _ => rfl), f9, f10, f11, f12, f13, f14⟩
                refine StepsU.run rfl ?_ ?_
                · intro L U wr hF hlk haf A K hA hK
                  have HA : Hid (A = putAll _ _ U) := hA
                  clear hA
                  simp [Aft, Region.binds] at haf
                  obtain ⟨fb, fk, fs, oX, oR, oO, oP, f0, f1, f2, f3, f4, f5, f6, f7, f8, f9, f10, f11, f12, f13, f14⟩ := hF
                  have g1 := f1 (by simp [haf])
                  have e69 := rd HA.out 69 (by kernel_rfl) g1
                  have g7 := f7 (by simp [haf])
                  have e75 := rd HA.out 75 (by kernel_rfl) g7
                  have g8 := f8 (by simp [haf])
                  have e76 := rd HA.out 76 (by kernel_rfl) g8
                  refine ⟨?_⟩
                  go_simp
                  refine (with_rd pU qU rU cs u _ _ _ _ z _ HG.out (hq5.below fk.b) HQL.out (hP.below fk.b) HZL.out).mono ?_
                  rintro e w1 ⟨v9, rfl, hr, hb⟩
                  go_simp
                  refine hK (upd U 77 (.tuple #[v9, .bool (decide ((coef cs u + z).natAbs < lim))])) _ _ ?_ ?_
                  · rw [HA.out]; kernel_rfl
                  · exact ⟨(fb.step hb (Nat.le_refl _)), (fk.trans (KeepB.below hb)), (Nat.le_trans fs hb.size), (oX.stay hb), (oR.stay hb), (oO.stay hb), (oP.stay hb), (mvB mb_is (KeepB.below hb) f0), (mvB mb_is (KeepB.below hb) f1), (mvB mb_is (KeepB.below hb) f2), (mvB mb_is (KeepB.below hb) f3), (mvB mb_is (KeepB.below hb) f4), (mvB mb_is (KeepB.below hb) f5), (mvB mb_is (KeepB.below hb) f6), (mvB mb_is (KeepB.below hb) f7), (mvB mb_is (KeepB.below hb) f8), (fun _ => ⟨_, _, rfl, hr, rfl⟩), (mvB (mb_t2 mb_qts mb_is) (KeepB.below hb) f10), (mvB mb_qts (KeepB.below hb) f11), (mvB mb_is (KeepB.below hb) f12), (mvB mb_qts (KeepB.below hb) f13), (mvB mb_is (KeepB.below hb) f14)⟩
                refine StepsU.run rfl ?_ ?_
                · intro L U wr hF hlk haf A K hA hK
                  have HA : Hid (A = putAll _ _ U) := hA
                  clear hA
                  simp [Aft, Region.binds] at haf
                  obtain ⟨fb, fk, fs, oX, oR, oO, oP, f0, f1, f2, f3, f4, f5, f6, f7, f8, f9, f10, f11, f12, f13, f14⟩ := hF
                  have g9 := f9 (by simp [haf])
                  have e77 := rd HA.out 77 (by kernel_rfl) rfl
                  refine ⟨?_⟩
                  go_simp
                  refine hK (upd U 67 (U 77)) _ _ ?_ ?_
                  · rw [HA.out]; kernel_rfl
                  · exact ⟨fb, fk, fs, oX, oR, oO, oP, f0, f1, f2, f3, f4, f5, f6, f7, f8, f9, (fun _ => g9), f11, f12, f13, f14⟩
                refine StepsU.run rfl ?_ ?_
                · intro L U wr hF hlk haf A K hA hK
                  have HA : Hid (A = putAll _ _ U) := hA
                  clear hA
                  simp [Aft, Region.binds] at haf
                  obtain ⟨fb, fk, fs, oX, oR, oO, oP, f0, f1, f2, f3, f4, f5, f6, f7, f8, f9, f10, f11, f12, f13, f14⟩ := hF
                  have g10 := f10 (by simp [haf])
                  obtain ⟨t0, t1, hT, k0, k1⟩ := g10
                  have e67 := rd HA.out 67 (by kernel_rfl) hT
                  refine ⟨?_⟩
                  go_simp
                  refine hK (upd U 78 t0) _ _ ?_ ?_
                  · rw [HA.out]; kernel_rfl
                  · exact ⟨fb, fk, fs, oX, oR, oO, oP, f0, f1, f2, f3, f4, f5, f6, f7, f8, f9, f10, (fun _ => k0), f12, f13, f14⟩
                refine StepsU.run rfl ?_ ?_
                · intro L U wr hF hlk haf A K hA hK
                  have HA : Hid (A = putAll _ _ U) := hA
                  clear hA
                  simp [Aft, Region.binds] at haf
                  obtain ⟨fb, fk, fs, oX, oR, oO, oP, f0, f1, f2, f3, f4, f5, f6, f7, f8, f9, f10, f11, f12, f13, f14⟩ := hF
                  have g10 := f10 (by simp [haf])
                  obtain ⟨t0, t1, hT, k0, k1⟩ := g10
                  have e67 := rd HA.out 67 (by kernel_rfl) hT
                  refine ⟨?_⟩
                  go_simp
                  refine hK (upd U 79 t1) _ _ ?_ ?_
                  · rw [HA.out]; kernel_rfl
                  · exact ⟨fb, fk, fs, oX, oR, oO, oP, f0, f1, f2, f3, f4, f5, f6, f7, f8, f9, f10, f11, (fun _ => k1), f13, f14⟩
                refine StepsU.run rfl ?_ ?_
                · intro L U wr hF hlk haf A K hA hK
                  have HA : Hid (A = putAll _ _ U) := hA
                  clear hA
                  simp [Aft, Region.binds] at haf
                  obtain ⟨fb, fk, fs, oX, oR, oO, oP, f0, f1, f2, f3, f4, f5, f6, f7, f8, f9, f10, f11, f12, f13, f14⟩ := hF
                  have g11 := f11 (by simp [haf])
                  have e78 := rd HA.out 78 (by kernel_rfl) rfl
                  refine ⟨?_⟩
                  go_simp
                  refine hK (upd U 10 (U 78)) _ _ ?_ ?_
                  · rw [HA.out]; kernel_rfl
                  · exact ⟨fb, fk, fs, oX, oR, oO, oP, f0, f1, f2, f3, f4, f5, f6, f7, f8, f9, f10, f11, f12, (fun _ => g11), f14⟩
                refine StepsU.run rfl ?_ StepsU.nil
                · intro L U wr hF hlk haf A K hA hK
                  have HA : Hid (A = putAll _ _ U) := hA
                  clear hA
                  simp [Aft, Region.binds] at haf
                  obtain ⟨fb, fk, fs, oX, oR, oO, oP, f0, f1, f2, f3, f4, f5, f6, f7, f8, f9, f10, f11, f12, f13, f14⟩ := hF
                  have g12 := f12 (by simp [haf])
                  have e79 := rd HA.out 79 (by kernel_rfl) rfl
                  refine ⟨?_⟩
                  go_simp
                  refine hK (upd U 11 (U 79)) _ _ ?_ ?_
                  · rw [HA.out]; kernel_rfl
                  · exact ⟨fb, fk, fs, oX, oR, oO, oP, f0, f1, f2, f3, f4, f5, f6, f7, f8, f9, f10, f11, f12, f13, (fun _ => g12)⟩
              clear hbw oX oR oO oP
              intro L U3 V3 hall hF
              obtain ⟨hbw, fk, fs, oX, oR, oO, oP, f0, f1, f2, f3, f4, f5, f6, f7, f8, f9, f10, f11, f12, f13, f14⟩ := hF
              have g0 := f0 (hall 0 (by decide))
              have g1 := f1 (hall 1 (by decide))
              have g2 := f2 (hall 2 (by decide))
              have g3 := f3 (hall 3 (by decide))
              have g4 := f4 (hall 4 (by decide))
              have g5 := f5 (hall 5 (by decide))
              have g6 := f6 (hall 6 (by decide))
              have g7 := f7 (hall 7 (by decide))
              have g8 := f8 (hall 8 (by decide))
              have g9 := f9 (hall 9 (by decide))
              have g10 := f10 (hall 10 (by decide))
              have g11 := f11 (hall 11 (by decide))
              have g12 := f12 (hall 12 (by decide))
              have g13 := f13 (hall 13 (by decide))
              have g14 := f14 (hall 14 (by decide))
              clear hall f0 f1 f2 f3 f4 f5 f6 f7 f8 f9 f10 f11 f12 f13 f14
              replace hQ := hQ.below fk.b
              replace hq5 := hq5.below fk.b
              replace hMo := hMo.below fk.b
              replace hP := hP.below fk.b
              replace ltX := oX.lt
              replace ltR := oR.lt
              replace ltO := oO.lt
              replace ltP := oP.lt
              try clear g0
              try clear g1
              try clear g2
              try clear g3
              try clear g4
              try clear g5
              try clear g6
              try clear g7
              try clear g8
              try clear g9
              try clear g10
              try clear g11
              try clear g12
              clear hbW
              simp only [setM_some, setM_none, setM_nil]
              clear fk fs
              obtain ⟨pV, qV, rV, e9, hq1, hq2, hq3, hq4, hq6⟩ := g13
              have HE9 : U3 10 = .slice pV qV rV := e9
              have HE10 : U3 11 = _ := g14
              rw [HE9, HE10]
              clear g14 HE9 HE10 e9 hQ hq5 k1 k2
              have hQ : QTS (nz (setL cs u (coef cs u + z))) (.slice pV qV rV) V3 := ⟨_, _, _, rfl, hq1, hq2, hq3, hq4, hq6⟩
              clear hq1 hq2 hq3 hq4 hq6
              by_cases hf : (coef cs u + z).natAbs < lim
              · have HF : Hid ((coef cs u + z).natAbs < lim) := hf
                have hfd : decide ((coef cs u + z).natAbs < lim) = true := decide_eq_true hf
                rw [hfd]
                clear hf hfd
                have hK := keepQ_stores (by decide) (by decide) [.slice pV qV rV] 0 oO (nuT _ _ _ _ _ _ _) (by intro u hu; simp at hu; subst hu; exact noU_slice _ _ _)
                have hB9 := below_stores lwO [.slice pV qV rV] 0 hbw
                have oO2 : Blk 86 (stores V3 bO 0 [.slice pV qV rV]) bO #[.slice pV qV rV, .bool xM, .slice aM nM cM] := oO.set 0 _
                have oX2 := oX.otherS (Ne.symm neXO) 0 [.slice pV qV rV]
                have oR2 := oR.otherS (Ne.symm neRO) 0 [.slice pV qV rV]
                have hQ2 := mq_qts _ _ _ hK hQ
                have hN2 := hMo.keepQ hK
                obtain ⟨Oc0, Oc1, Oc2⟩ := oO.three
                obtain ⟨Ok0, Ok1, Ok2⟩ := oO.frozen3
                go_wp2
                go_roundw
                case rel =>
                  refine ⟨k + 1, setL cs u (coef cs u + z), _, by omega, by go_num, oX2, oR2, oO2, hQ2, hN2, HG.out.step hu9 HF.out, ?_, hB9⟩
                  show _ = _
                  rw [HST.out, if_neg (fun k => k HV.out), if_neg (by simp), if_neg (by simpa using HF.out)]
                  rfl
                case measure => simp [intOf]; omega
              · have HF : Hid (¬ (coef cs u + z).natAbs < lim) := hf
                have hfd : decide ((coef cs u + z).natAbs < lim) = false := decide_eq_false hf
                rw [hfd]
                clear hf hfd
                have HNE : Hid ((11 : Int) ≠ 0) := by show _ ≠ _; decide
                obtain ⟨Rc0, Rc1, Rc2⟩ := oR.three
                obtain ⟨Rk0, Rk1, Rk2⟩ := oR.frozen3
                try simp only []
                try go_at_K
                repeat (first | go_values | go_skip | go_guarded | go_step | go_upon)
                refine bodyPost_ret (v := .tuple #[.agg #[.slice none 0 0, .bool false, .slice none 0 0], .int .i64 11]) (by simp [results, Tryz.results41, go_sem, Rc0, Rc1, Rc2]) rfl ?_
                obtain ⟨K1, B1, _⟩ := resTq (by decide) (by decide) oR hbw lwR none 0 0 false none 0 0
                have hE : rdE ms S = 11 := by rw [HRD.out, HST.out, if_neg (fun k => k HV.out), if_neg (by simp), if_pos (by simpa using HF.out)]
                have hP : rdP ms S = [] := if_neg (by rw [hE]; exact HNE.out)
                have hM : rdM ms S = 0 := if_neg (by rw [hE]; exact HNE.out)
                rw [hE, hP, hM]
                exact ⟨_, rfl, (RTP.zero _).val, B1⟩
            · have hc2 : (co != 0) = true := by rw [bne_iff_ne]; exact hc
              have HNE : Hid (co ≠ 0) := hc
              clear hc
              obtain ⟨Rc0, Rc1, Rc2⟩ := oR.three
              obtain ⟨Rk0, Rk1, Rk2⟩ := oR.frozen3
              try simp only []
              try go_at_K
              repeat (first | go_values | go_skip | go_guarded | go_step | go_upon)
              refine bodyPost_ret (v := .tuple #[.agg #[.slice none 0 0, .bool false, .slice none 0 0], .int .i64 co]) (by simp [results, Tryz.results41, go_sem, Rc0, Rc1, Rc2]) rfl ?_
              obtain ⟨K1, B1, _⟩ := resTq (by decide) (by decide) oR hbw lwR none 0 0 false none 0 0
              have hE : rdE ms S = co := by rw [HRD.out, HST.out, if_neg (fun k => k HV.out), if_pos HNE.out]
              have hP : rdP ms S = [] := if_neg (by rw [hE]; exact HNE.out)
              have hM : rdM ms S = 0 := if_neg (by rw [hE]; exact HNE.out)
              rw [hE, hP, hM]
              exact ⟨_, rfl, (RTP.zero _).val, B1⟩
          · have HV : Hid (¬ (0 ≤ v ∧ v < 4096)) := hv
            have hv2 : v < 0 ∨ ¬ v < 0 ∧ (4096 : Int) ≤ v := by omega
            clear hv
            have HNE : Hid ((30 : Int) ≠ 0) := by show _ ≠ _; decide
            rcases hv2 with hv2 | ⟨hv2, hv3⟩
            · obtain ⟨Xc0, Xc1, Xk0, Xk1⟩ := oX.two
              obtain ⟨Rc0, Rc1, Rc2⟩ := oR.three
              obtain ⟨Rk0, Rk1, Rk2⟩ := oR.frozen3
              try simp only []
              try go_at_K
              repeat (first | go_values | go_skip | go_guarded | go_step | go_upon)
              refine bodyPost_ret (v := .tuple #[.agg #[.slice none 0 0, .bool false, .slice none 0 0], .int .i64 30]) (by simp [results, Tryz.results41, go_sem, Rc0, Rc1, Rc2]) rfl ?_
              obtain ⟨K1, B1, _⟩ := resTq (by decide) (by decide) oR hbw lwR none 0 0 false none 0 0
              have hE : rdE ms S = 30 := by rw [HRD.out, HST.out, if_pos HV.out]
              have hP : rdP ms S = [] := if_neg (by rw [hE]; exact HNE.out)
              have hM : rdM ms S = 0 := if_neg (by rw [hE]; exact HNE.out)
              rw [hE, hP, hM]
              exact ⟨_, rfl, (RTP.zero _).val, B1⟩
            · obtain ⟨Xc0, Xc1, Xk0, Xk1⟩ := oX.two
              obtain ⟨Rc0, Rc1, Rc2⟩ := oR.three
              obtain ⟨Rk0, Rk1, Rk2⟩ := oR.frozen3
              try simp only []
              try go_at_K
              repeat (first | go_values | go_skip | go_guarded | go_step | go_upon)
              refine bodyPost_ret (v := .tuple #[.agg #[.slice none 0 0, .bool false, .slice none 0 0], .int .i64 30]) (by simp [results, Tryz.results41, go_sem, Rc0, Rc1, Rc2]) rfl ?_
              obtain ⟨K1, B1, _⟩ := resTq (by decide) (by decide) oR hbw lwR none 0 0 false none 0 0
              have hE : rdE ms S = 30 := by rw [HRD.out, HST.out, if_pos HV.out]
              have hP : rdP ms S = [] := if_neg (by rw [hE]; exact HNE.out)
              have hM : rdM ms S = 0 := if_neg (by rw [hE]; exact HNE.out)
              rw [hE, hP, hM]
              exact ⟨_, rfl, (RTP.zero _).val, B1⟩
        · have HG9 : Hid (gth ms [] = (0, cs)) := by show _ = _; rw [HI.out, List.drop_eq_nil_of_le (by rw [HLN.out]; omega)]; rfl
          obtain ⟨Xc0, Xc1, Xk0, Xk1⟩ := oX.two
          obtain ⟨Rc0, Rc1, Rc2⟩ := oR.three
          obtain ⟨Rk0, Rk1, Rk2⟩ := oR.frozen3
          obtain ⟨Oc0, Oc1, Oc2⟩ := oO.three
          obtain ⟨Ok0, Ok1, Ok2⟩ := oO.frozen3
          try simp only []
          try go_at_K
          repeat (first | go_values | go_skip | go_guarded | go_step | go_upon)
          refine bodyPost_ret (v := .tuple #[.agg #[.slice pU qU rU, .bool xM, .slice aM nM cM], .int .i64 0]) (by simp [results, Tryz.results41, go_sem, Rc0, Rc1, Rc2]) rfl ?_
          obtain ⟨K1, B1, _⟩ := resTq (by decide) (by decide) oR hbw lwR pU qU rU xM aM nM cM
          have hE : rdE ms S = 0 := by rw [HRD.out, HG9.out]
          have hP : rdP ms S = nz cs := by unfold rdP; rw [if_pos hE, HG9.out]
          have hM : rdM ms S = m0 := by unfold rdM; rw [if_pos hE]; exact HMZ.out
          rw [hE, hP, hM]
          obtain ⟨_, _, _, he9, h1, h2, h3, h4, h5⟩ := mq_qts _ _ _ K1 hQ
          cases he9
          exact ⟨_, rfl, ⟨_, _, _, _, _, _, _, rfl, ⟨h1, h2, h3, h4, h5, hMo.keepQ K1, HG.out.nz_rise, HML.out⟩⟩, B1⟩
    · have hc2 : (co != 0) = true := by rw [bne_iff_ne]; exact hc
      have HNE : Hid (co ≠ 0) := hc
      clear hc
      obtain ⟨Rc0, Rc1, Rc2⟩ := oR.three
      obtain ⟨Rk0, Rk1, Rk2⟩ := oR.frozen3
      try simp only []
      try go_at_K
      repeat (first | go_values | go_skip | go_guarded | go_step | go_upon)
      refine bodyPost_ret (v := .tuple #[.agg #[.slice none 0 0, .bool false, .slice none 0 0], .int .i64 co]) (by simp [results, Tryz.results41, go_sem, Rc0, Rc1, Rc2]) rfl ?_
      obtain ⟨K1, B1, _⟩ := resTq (by decide) (by decide) oR hbw lwR none 0 0 false none 0 0
      have hE : rdE ms S = co := by unfold rdE; rw [if_neg H4.out, HCO.out, if_pos HNE.out]
      have hP : rdP ms S = [] := if_neg (by rw [hE]; exact HNE.out)
      have hM : rdM ms S = 0 := if_neg (by rw [hE]; exact HNE.out)
      rw [hE, hP, hM]
      exact ⟨_, rfl, (RTP.zero _).val, B1⟩

end Go.Proofs.YteefniagebcagaaGreatDoor
