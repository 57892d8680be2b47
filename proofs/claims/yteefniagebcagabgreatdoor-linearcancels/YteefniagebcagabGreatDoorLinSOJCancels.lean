/- Contracts of linear's sumOf and Read; they prove no statement of the seat. -/
import Derived.Test.YteefniagebcagabGreatDoorJoin17Cancels
import Derived.Test.YteefniagebcagabGreatDoorLinTJCancels
namespace Go.Proofs.YteefniagebcagabGreatDoor
open Go.RowKit
set_option linter.unusedVariables false

/-- Those that aren't 0. -/
def nz (c : List (Nat × Int)) : List (Nat × Int) := c.filter fun p => decide (p.2 ≠ 0)
theorem nz_fine {c : List (Nat × Int)} (hr : Rise c) (hv : ∀ p ∈ c, p.1 < 4096) (hl : ∀ p ∈ c, p.2.natAbs < lim) : Fine (nz c) := by
  refine ⟨List.Pairwise.filter _ hr, fun p hp => ?_⟩
  unfold nz at hp
  obtain ⟨h1, h2⟩ := List.mem_filter.1 hp
  exact ⟨by simpa using h2, hl p h1, hv p h1⟩
theorem nz_coef (c : List (Nat × Int)) (hr : Rise c) (v : Nat) : coef (nz c) v = coef c v := by
  unfold nz
  induction c with
  | nil => rfl
  | cons p r ih =>
    rw [List.filter_cons]
    by_cases h : p.2 ≠ 0
    · rw [decide_eq_true h, if_pos rfl, coef, coef, ih hr.tail]
    · rw [decide_eq_false h, if_neg (by simp), ih hr.tail, coef]
      by_cases hv : p.1 = v
      · rw [if_pos hv, coef_low (fun q hq => by have := hr.head q hq; omega)]
        omega
      · rw [if_neg hv]
theorem nz_take {c : List (Nat × Int)} {k v : Nat} {z : Int} (hk : k < c.length) (hp : c.getD k (0, 0) = (v, z)) : nz (c.take (k + 1)) = nz (c.take k) ++ (if z ≠ 0 then [(v, z)] else []) := by
  unfold nz
  rw [List.take_succ_eq_append_getElem hk, List.filter_append]
  rw [List.getD_eq_getElem?_getD, List.getElem?_eq_getElem hk] at hp
  simp at hp
  rw [hp]
  by_cases h : z = 0
  · simp [h]
  · simp [h]
theorem MEl.lims {w : World} : ∀ {l : List (Nat × Value)} {c : List (Nat × Int)}, MEl w l c → ∀ p ∈ c, p.2.natAbs < lim
  | [], [], _ => fun p hp => by cases hp
  | p :: l, q :: c, h => fun x hx => by
    rcases List.mem_cons.1 hx with rfl | hx
    · exact h.2.1.lt
    · exact MEl.lims h.2.2 x hx
  | [], _ :: _, h => h.elim
  | _ :: _, [], h => h.elim
theorem MEl.length {w : World} {l : List (Nat × Value)} {c : List (Nat × Int)} (h : MEl w l c) : l.length = c.length := by
  have := congrArg List.length h.keys
  simpa using this

set_option maxRecDepth 20000 in
set_option maxHeartbeats 8000000 in
theorem sumOf_any (b nn : Nat) (l : List (Nat × Value)) (cs : List (Nat × Int)) (w : World) (hm : MapR w b nn l) (hc : MEl w l cs) (hr : Rise cs) (hv : ∀ p ∈ cs, p.1 < 4096) :
    Calls Tryz.prog 42 #[.map (some b)] w fun e w' => ∃ v, e = .returned v ∧ TermR w' v (nz cs) 0 ∧ Below w.heap.size w w' := by
  have HML : Hid (MapR w b nn l) := hm
  have HMl : Hid (MEl w l cs) := hc
  have HR : Hid (Rise cs) := hr
  have HV : Hid (∀ p ∈ cs, p.1 < 4096) := hv
  obtain ⟨n, hn9⟩ : ∃ n, n = cs.length := ⟨_, rfl⟩
  have HLN : Hid (cs.length = n) := hn9.symm
  have hlen : n ≤ 4096 := by rw [hn9]; rcases rise_len cs 0 hr (fun p hp => ⟨Nat.zero_le _, hv p hp⟩) with h | h; (omega); (rw [h]; simp)
  have HLL : Hid (l.length ≤ 10000) := by have := hc.length; show _ ≤ _; omega
  have HKS : Hid ((l.map (·.1)) = cs.map (·.1)) := hc.keys
  have HPW : Hid ((cs.map (·.1)).Pairwise (· < ·)) := by show List.Pairwise _ _; rw [List.pairwise_map]; exact hr
  clear hm hc hr hv hn9
  have oR := (Blk.new w 30 #[.slice none 0 0, .bool false, .slice none 0 0])
  have hbw : Below w.heap.size w (w.alloc (.cells #[.slice none 0 0, .bool false, .slice none 0 0] 30 (0, 0))) := by go_grown
  have ltR := oR.lt
  have lwR : w.heap.size ≤ w.heap.size := by omega
  go_enter Tryz.func42, Tryz.ntmps42
  go_wp2_with (first | (go_at_call 73; refine (keys_h b _).mono ?_; rintro e w1 ⟨rfl, rfl⟩) | (go_at_call 72; refine (sorted_n b nn l _ (HML.out.below hbw) HLL.out _ n HKS.out (by rw [List.length_map]; exact HLN.out) HPW.out (w.heap.size + 1) (by simp)).mono ?_; rintro e w2 ⟨ao, cK, rfl, hKA, k1, k2, hb2⟩))
  replace oR := oR.stay hb2
  replace hbw := hbw.step hb2 (Nat.le_refl _)
  clear hb2 ltR
  unfold maxLen at k2
  go_loopw [3, 10] (fun pl i wl => ∃ (k : Nat) (xs : List Value), k ≤ n ∧ i = .int .i64 k ∧ Blk 30 wl w.heap.size #[.slice none 0 0, .bool false, .slice none 0 0] ∧ KA wl ao (cs.map (·.1)) ∧ LstG 3 78 w.heap.size wl pl (nz (cs.take k)).length xs ∧ ElsP wl xs (nz (cs.take k)) ∧ Below w.heap.size w wl) (fun _ i _ => n - (intOf i).toNat)
  case atStart => exact ⟨0, [], Nat.zero_le _, rfl, oR, hKA, LstG.nil _ _ _ _, ElsP.nil _, hbw⟩
  case round =>
    rename World => wl
    clear hbw oR hKA
    obtain ⟨k, xs, hk, hi9, oR, hKA, hL, hE, hbw⟩ := hrel
    subst hi9
    have ltR := oR.lt
    by_cases h0 : k < n
    · obtain ⟨gE, had, A0⟩ := hKA.at k (by rw [List.length_map, HLN.out]; exact h0)
      subst had
      obtain ⟨pv, hpv⟩ : ∃ x9, x9 = (cs.getD k (0, 0)).1 := ⟨_, rfl⟩
      obtain ⟨pz, hpz⟩ : ∃ x9, x9 = (cs.getD k (0, 0)).2 := ⟨_, rfl⟩
      have HPV : Hid (cs.getD k (0, 0) = (pv, pz)) := by show _ = _; rw [hpv, hpz]
      clear hpv hpz
      have e9 : (cs.map (·.1)).getD k 0 = pv := by
        have h9 := HPV.out
        rw [List.getD_eq_getElem?_getD, List.getElem?_eq_getElem (by rw [HLN.out]; exact h0)] at h9
        simp at h9
        rw [List.getD_eq_getElem?_getD, List.getElem?_map, List.getElem?_eq_getElem (by rw [HLN.out]; exact h0), h9]; rfl
      rw [e9] at A0
      clear e9
      have HPM : Hid ((pv, pz) ∈ cs) := by
        have h9 := HPV.out
        rw [List.getD_eq_getElem?_getD, List.getElem?_eq_getElem (by rw [HLN.out]; exact h0)] at h9
        simp at h9
        rw [← h9]
        exact List.getElem_mem _
      have hv3 : pv < 4096 := HV.out _ HPM.out
      have hEz : AInt wl (lookL l pv (.agg #[.bool false, .slice none 0 0])) pz := by
        have h9 := (HMl.out.below hbw).look (v := pv) (AInt.zero _)
        rw [coef_mem HR.out HPM.out] at h9
        exact h9
      obtain ⟨xE, aE, mE, cE, hv9⟩ := hEz.shape
      have HLK : Hid (lookL l pv (.agg #[.bool false, .slice none 0 0]) = .agg #[.bool xE, .slice aE mE cE]) := hv9
      rw [hv9] at hEz
      clear hv9
      have hLm := HML.out.below hbw
      go_wp2_with (at_lookup; refine wpList_lookup_m _ rfl _ _ rfl b nn l pv rfl hLm rfl hv3 ?_; rw [HLK.out])
      refine (sign_h _ pz _ hEz).mono ?_
      rintro e w2 ⟨rfl, hb⟩
      replace hE := hE.keep (KeepN.below hb)
      replace hKA := hKA.keepN (KeepN.below hb)
      clear A0
      replace oR := oR.stay hb
      replace ltR := oR.lt
      replace hL := hL.below hb
      replace hEz := hEz.below hb
      replace hLm := hLm.below hb
      replace hbw := hbw.step hb (Nat.le_refl _)
      clear hb
      by_cases hz0 : pz = 0
      · have hs : (pz.sign != 0) = false := by rw [hz0]; rfl
        have HN : Hid (nz (cs.take (k + 1)) = nz (cs.take k)) := by
          have h9 := nz_take (by rw [HLN.out]; exact h0) HPV.out
          rw [if_neg (not_not_intro hz0), List.append_nil] at h9
          exact h9
        clear hz0
        go_wp2
        go_roundw
        case rel => exact ⟨k + 1, xs, by omega, by go_num, oR, hKA, by rw [HN.out]; exact hL, by rw [HN.out]; exact hE, hbw⟩
        case measure => simp [intOf]; omega
      · have hs : (pz.sign != 0) = true := by rw [bne_iff_ne]; exact fun h => hz0 (Int.sign_eq_zero_iff_zero.1 h)
        have HN : Hid (nz (cs.take (k + 1)) = nz (cs.take k) ++ [(pv, pz)]) := by
          have h9 := nz_take (by rw [HLN.out]; exact h0) HPV.out
          rw [if_pos hz0] at h9
          exact h9
        clear hz0
        have hb3 := below_new w2 (.cells #[.int .i64 (pv : Nat), .bool xE, .slice aE mE cE] 78 (0, 0))
        have oB := Blk.new w2 78 #[.int .i64 (pv : Nat), .bool xE, .slice aE mE cE]
        have hL3 := hL.below hb3
        have hbw3 := hbw.step hb3 (Nat.le_refl _)
        have hnl : (nz (cs.take k)).length ≤ k := by
          have h9 := List.length_filter_le (fun p : Nat × Int => decide (p.2 ≠ 0)) (cs.take k)
          rw [List.length_take] at h9
          exact Nat.le_trans h9 (Nat.min_le_left _ _)
        go_wp2_with (first | (at_lookup; refine wpList_lookup_m _ rfl _ _ rfl b nn l pv rfl hLm rfl hv3 ?_; rw [HLK.out]) | (at_builtin; refine wpList_append_g rfl _ _ 25 rfl 3 w.heap.size 78 (.agg #[.int .i64 0, .bool false, .slice none 0 0]) 40 Tryz.und_parts Tryz.info_part (by decide) rfl (by decide) (nuP _ _ _ _ _) (by decide) _ _ _ rfl hL3 ⟨w2.heap.size, 0, none⟩ 1 1 [.int .i64 (pv : Nat), .bool xE, .slice aE mE cE] rfl rfl (by intro j u hj; match j, hj with | 0, hj => (simp at hj; subst hj; exact oB.cell 0) | 1, hj => (simp at hj; subst hj; exact oB.cell 1) | 2, hj => (simp at hj; subst hj; exact oB.cell 2) | j + 3, hj => (simp at hj)) (by intro u hu; simp at hu; rcases hu with rfl | rfl | rfl <;> rfl) (nuP _ _ _ _ _) (Or.inl (by decide)) (by omega) hbw3.size ?_; intro v8 w8 hL8 hA8 hn8))
        have hb8 := hA8.bel
        have hK8 := (KeepN.below hb3).trans hA8.keep
        have oR8 : Blk 30 w8 w.heap.size #[.slice none 0 0, .bool false, .slice none 0 0] := (hA8.other _ (oR.stay hb3).lt (hL3.blk (oR.stay hb3) (by decide))).trans (oR.stay hb3)
        have hE8 := (hE.keep hK8).app (by rw [hL.1]) (ElsP.one (v := pv) (z := pz) (hEz.keepN hK8))
        have hKA8 := hKA.keepN hK8
        go_roundw
        case rel => exact ⟨k + 1, _, by omega, by go_num, oR8, hKA8, by rw [HN.out, List.length_append]; exact hL8, by rw [HN.out]; exact hE8, hbw3.trans hb8⟩
        case measure => simp [intOf]; omega
    · have hkq : k = n := by omega
      subst hkq
      have HTK : Hid (cs.take k = cs) := List.take_of_length_le (by rw [HLN.out]; exact Nat.le_refl _)
      rw [HTK.out] at hL hE
      have HFN : Hid (Fine (nz cs)) := nz_fine HR.out HV.out HMl.out.lims
      obtain ⟨aP, cP, rfl, q1, q2, q3, q4⟩ := hL.parr hE rfl
      obtain ⟨nP, hnP⟩ : ∃ x, x = (nz cs).length := ⟨_, rfl⟩
      have HNP : Hid ((nz cs).length = nP) := hnP.symm
      rw [← hnP] at q1 ⊢
      clear hnP
      obtain ⟨Rc0, Rc1, Rc2⟩ := oR.three
      obtain ⟨Rk0, Rk1, Rk2⟩ := oR.frozen3
      try simp only []
      try go_at_K
      repeat (first | go_values | go_skip | go_guarded | go_step | go_upon)
      refine bodyPost_ret (v := .agg #[.slice aP nP cP, .bool false, .slice none 0 0]) (by simp [results, Tryz.results42, go_sem, Rc0, Rc1, Rc2]) rfl ?_
      obtain ⟨K1, B1, _⟩ := resT (by decide) (by decide) oR hbw lwR aP nP cP false none 0 0
      exact ⟨_, rfl, ⟨_, _, _, _, _, _, _, rfl, ⟨HNP.out, q1, q2, q3, q4.keepP K1, AInt.zero _, HFN.out⟩⟩, B1⟩

end Go.Proofs.YteefniagebcagabGreatDoor
