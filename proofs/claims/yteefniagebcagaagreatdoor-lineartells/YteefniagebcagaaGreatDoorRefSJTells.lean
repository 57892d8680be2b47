/- Contract of suretyref03's Sum; they prove no statement of the seat. -/
import Derived.Test.YteefniagebcagaaGreatDoorRefAJTells
namespace Go.Proofs.YteefniagebcagaaGreatDoor
open Go.RowKit
set_option linter.unusedVariables false

theorem putn_h (p : Nat) (vC : Value) (z : Int) (w : World) (hC : RNum w vC z 400) :
    Calls Tryz.prog 55 #[.slice none 0 0, .int .i64 (p : Nat), vC] w fun e w' => ∃ u, e = .returned u ∧ QTS (one p z) u w' ∧ Below w.heap.size w w' := by
  obtain ⟨x, a, n, c, rfl⟩ := hC.shape
  refine (put_h w.heap.size _ 0 [] [] p x a n c z 400 w (LstG.nil _ _ _ _) (ElsQ.nil _) rfl hC (by decide) (by decide) (Nat.le_refl _)).mono ?_
  rintro e w' ⟨v', n', xs', rfl, h1, h2, h3, h4, hR⟩
  rw [List.nil_append] at h2 h3
  obtain ⟨ao, cap, hv, hc1, hc2, hc3, hqa⟩ := h1.qarr h2 h3
  exact ⟨_, rfl, ⟨ao, n', cap, hv, h3, hc1, hc2, hc3, hqa⟩, hR.bel⟩
theorem one_fine {v : Nat} {z : Int} (hv : v < 4096) (hz' : z.natAbs < lim) : Fine (one v z) := by
  refine ⟨one_rise v z, fun p hp => ⟨one_nz v z p hp, ?_⟩⟩
  unfold one at hp
  split at hp
  · cases hp
  · rw [List.mem_singleton.1 hp]; exact ⟨hz', hv⟩
theorem xP_one (v : Nat) (z : Int) : xP v z = one v z := by
  unfold xP one
  by_cases h : z = 0
  · rw [if_pos (Or.inr h), if_pos h]
  · rw [if_neg (fun k => k.elim (fun k => by omega) h), if_neg h]; rfl

set_option maxRecDepth 20000 in
set_option maxHeartbeats 16000000 in
theorem rsum_any (aX : Option Addr) (nX cX : Nat) (ms : List (Int × ByteArray)) (w : World) (hm : MArr w aX ms) (hl : ms.length = nX) (hx : nX ≤ maxLen) (hs : ∀ p ∈ ms, p.2.size ≤ 400 ∧ p.1 < 4096) :
    Calls Tryz.prog 12 #[.slice aX nX cX] w fun e w' => ∃ v co ps r, e = .returned (.tuple #[v, .int .i64 co]) ∧ RTermR w' v ps r ∧ Hid ((co = 0 → Tm ms [] 0 ps r) ∧ (co ≠ 0 → ∀ b s, ¬ Tm ms [] 0 b s)) ∧ Below w.heap.size w w' := by
  have oR := ((Blk.new w 41 #[.slice none 0 0, .bool false, .slice none 0 0]).alloc (.cells #[.slice none 0 0, .bool false, .slice none 0 0] 41 (0, 0)))
  have oA := (Blk.new (w.alloc (.cells #[.slice none 0 0, .bool false, .slice none 0 0] 41 (0, 0))) 41 #[.slice none 0 0, .bool false, .slice none 0 0])
  simp only [World.size_alloc] at oA
  have hbw : Below w.heap.size w ((w.alloc (.cells #[.slice none 0 0, .bool false, .slice none 0 0] 41 (0, 0))).alloc (.cells #[.slice none 0 0, .bool false, .slice none 0 0] 41 (0, 0))) := by go_grown
  have ltR := oR.lt
  have lwR : w.heap.size ≤ w.heap.size := by omega
  have ltA := oA.lt
  have lwA : w.heap.size ≤ w.heap.size + 1 := by omega
  have HM : Hid (MArr w aX ms) := hm
  have HLN : Hid (ms.length = nX) := hl
  have HSZ : Hid (∀ p ∈ ms, p.2.size ≤ 400 ∧ p.1 < 4096) := hs
  have hn : (nX : Int) ≤ 9223372036854775807 := by unfold maxLen at hx; omega
  clear hm hl hs hx
  go_enter Tryz.func12, Tryz.ntmps12
  go_wp2
  go_loopw [5] (fun i wl => ∃ (k : Nat) (ps : List (Nat × Int)) (r : Int) (pA : Option Addr) (qA rA : Nat) (xA : Bool) (aA : Option Addr) (nA cA : Nat), k ≤ nX ∧ i = .int .i64 k ∧ Blk 41 wl w.heap.size #[.slice none 0 0, .bool false, .slice none 0 0] ∧ Blk 41 wl (w.heap.size + 1) #[.slice pA qA rA, .bool xA, .slice aA nA cA] ∧ RTP wl pA qA rA xA aA nA cA ps r ∧ Hid (∀ b s, Tm (ms.drop k) ps r b s ↔ Tm ms [] 0 b s) ∧ Below w.heap.size w wl) (fun i _ => nX - (intOf i).toNat)
  case atStart => exact ⟨0, [], 0, none, 0, 0, false, none, 0, 0, Nat.zero_le _, rfl, oR, oA, RTP.zero _, fun b s => Iff.rfl, hbw⟩
  case round =>
    rename World => wl
    clear oR oA hbw ltR ltA
    obtain ⟨k, ps, r, pA, qA, rA, xA, aA, nA, cA, hk, hi9, oR, oA, hA, HI, hbw⟩ := hrel
    subst hi9
    have ltR := oR.lt
    have ltA := oA.lt
    by_cases h0 : k < nX
    · obtain ⟨gE, oE, had, k1, k2⟩ := HM.out.at k (by rw [HLN.out]; exact h0)
      subst had
      obtain ⟨v, hpv⟩ : ∃ x9, x9 = (ms.getD k (0, ⟨#[]⟩)).1 := ⟨_, rfl⟩
      obtain ⟨T, hps⟩ : ∃ x9, x9 = (ms.getD k (0, ⟨#[]⟩)).2 := ⟨_, rfl⟩
      rw [← hpv] at k1
      rw [← hps] at k2
      have HPV : Hid (ms.getD k (0, ⟨#[]⟩) = (v, T)) := by show _ = _; rw [hpv, hps]
      clear hpv hps
      have K1 : Hid (w.cell? ⟨gE, oE + k * 2, none⟩ = some (.int .i64 v)) := k1
      have A1 := (hbw.cell (p := ⟨gE, oE + k * 2 + 1, none⟩) (World.block_lt_of_cell? w _ k2)).trans k2
      clear k1 k2
      have hmem : (v, T) ∈ ms := by have h := HPV.out; rw [List.getD_eq_getElem?_getD, List.getElem?_eq_getElem (by rw [HLN.out]; exact h0)] at h; simp at h; rw [← h]; exact List.getElem_mem _
      have hsz : T.size ≤ 10000 := by have := (HSZ.out _ hmem).1; simp at this; omega
      have hvm : v < 4096 := (HSZ.out _ hmem).2
      clear hmem
      have HST : Hid (∀ b s, Tm ms [] 0 b s ↔ pcd T = 0 ∧ tAddOk ps (xP v (pzd T)) r (xR v (pzd T)) ∧ Tm (ms.drop (k + 1)) (addP ps (xP v (pzd T))) (r + xR v (pzd T)) b s) := fun b s => (HI.out b s).symm.trans (Tm.drop (by rw [HLN.out]; exact h0) HPV.out ps r b s)
      go_wp2_with fail
      refine (rparse_h T _ hsz).mono ?_
      rintro e w1 ⟨xP9, aP, nP, cP, rfl, hP, hb⟩
      replace oR := oR.stay hb
      replace ltR := oR.lt
      replace oA := oA.stay hb
      replace ltA := oA.lt
      replace hA := hA.below hb
      replace hbw := hbw.step hb (Nat.le_refl _)
      clear hb
      clear A1
      have hn := below_new w1 (.cells #[.bool xP9, .slice aP nP cP] 39 (0, 0))
      have oP := Blk.new w1 39 #[.bool xP9, .slice aP nP cP]
      have neRP : w.heap.size ≠ w1.heap.size := by have := ltR; (try simp at this); omega
      have neAP : w.heap.size + 1 ≠ w1.heap.size := by have := ltA; (try simp at this); omega
      have lwP : w.heap.size ≤ w1.heap.size := by have := hbw.size; (try simp at this); omega
      replace oR := oR.stay hn
      replace ltR := oR.lt
      replace oA := oA.stay hn
      replace ltA := oA.lt
      replace hA := hA.below hn
      replace hP := hP.below hn
      replace hbw := hbw.step hn (Nat.le_refl _)
      clear hn
      have ltP := oP.lt
      obtain ⟨co, hco⟩ : ∃ co, co = pcd T := ⟨_, rfl⟩
      obtain ⟨z, hzz⟩ : ∃ z, z = pzd T := ⟨_, rfl⟩
      rw [← hco] at HST ⊢
      rw [← hzz] at HST hP
      have HZL : Hid (z.natAbs < lim) := by show _ < _; rw [hzz]; exact pzd_lim T
      clear hco hzz
      by_cases hc : co = 0
      · subst hc
        obtain ⟨Pc0, Pc1, Pk0, Pk1⟩ := oP.two
        have hn := below_new (w1.alloc (.cells #[.bool xP9, .slice aP nP cP] 39 (0, 0))) (.cells #[.slice none 0 0, .bool xP9, .slice aP nP cP] 41 (0, 0))
        have oX := Blk.new (w1.alloc (.cells #[.bool xP9, .slice aP nP cP] 39 (0, 0))) 41 #[.slice none 0 0, .bool xP9, .slice aP nP cP]
        simp only [World.size_alloc] at oX
        have neRX : w.heap.size ≠ w1.heap.size + 1 := by have := ltR; (try simp at this); omega
        have neAX : w.heap.size + 1 ≠ w1.heap.size + 1 := by have := ltA; (try simp at this); omega
        have nePX : w1.heap.size ≠ w1.heap.size + 1 := by have := ltP; (try simp at this); omega
        have lwX : w.heap.size ≤ w1.heap.size + 1 := by have := hbw.size; (try simp at this); omega
        replace oR := oR.stay hn
        replace ltR := oR.lt
        replace oA := oA.stay hn
        replace ltA := oA.lt
        replace oP := oP.stay hn
        replace ltP := oP.lt
        replace hA := hA.below hn
        replace hP := hP.below hn
        replace hbw := hbw.step hn (Nat.le_refl _)
        clear hn
        have ltX := oX.lt
        by_cases hv : 0 ≤ v
        · obtain ⟨u, rfl⟩ : ∃ u : Nat, v = u := ⟨v.toNat, by omega⟩
          have hu9 : u < 4096 := by omega
          have HXR : Hid (xR (u : Int) z = 0) := if_neg (by omega)
          have HXP : Hid (xP (u : Int) z = one u z) := xP_one u z
          have A0 := (hbw.cell (p := ⟨gE, oE + k * 2, none⟩) (World.block_lt_of_cell? w _ K1.out)).trans K1.out
          go_wp2
          clear A0
          generalize ((w1.alloc (.cells #[.bool xP9, .slice aP nP cP] 39 (0, 0))).alloc (.cells #[.slice none 0 0, .bool xP9, .slice aP nP cP] 41 (0, 0))) = W1 at hbw oR oA oP oX ltR ltA ltP ltX hA hP ⊢
          have geX : w.heap.size ≤ w1.heap.size + 1 := lwX
          have neXR := neRX.symm
          have neXA := neAX.symm
          have neXP := nePX.symm
          have hbW := hbw
          refine wp_region_M (by kernel_rfl) [37, 38, 39, 40, 41, 42, 43, 44] [none, none, none, none, none, none, none, none, none, none, none, none, none, none, none, none, none, none, none, none, none, none, none, none, none, none, none, none, none, none, none, none, none, none, none, none, none, some 37, some 38, some 39, some 40, some 41, some 42, some 43, some 44] (fun U => by kernel_rfl) (fun L U wr => Below w.heap.size w wr ∧ KeepQ W1 wr ∧ W1.heap.size ≤ wr.heap.size ∧ Blk 41 wr (w.heap.size) #[.slice none 0 0, .bool false, .slice none 0 0] ∧ Blk 41 wr (w.heap.size + 1) #[.slice pA qA rA, .bool xA, .slice aA nA cA] ∧ Blk 39 wr (w1.heap.size) #[.bool xP9, .slice aP nP cP] ∧ BlkV 41 wr (w1.heap.size + 1) (bif L 8 then U 44 else .agg #[.slice none 0 0, .bool xP9, .slice aP nP cP]) ∧ (L 0 = true → IS (.slice (some ⟨gE, oE, none⟩) nX cX) (U 37) wr) ∧ (L 1 = true → IS (.int .i64 k) (U 38) wr) ∧ (L 2 = true → IS (.pointer (some ⟨gE, oE + k * 2, none⟩)) (U 39) wr) ∧ (L 3 = true → IS (.pointer (some ⟨gE, oE + k * 2, none⟩)) (U 40) wr) ∧ (L 4 = true → IS (.int .i64 (u : Nat)) (U 41) wr) ∧ (L 5 = true → IS (.agg #[.bool xP9, .slice aP nP cP]) (U 42) wr) ∧ (L 6 = true → QTS (one u z) (U 43) wr) ∧ (L 7 = true → RTM (one u z) 0 (U 44) wr) ∧ (L 8 = true → L 7 = true)) (by kernel_rfl) ?_ ?_ ?_
          · exact fun U => ⟨hbw.drew, KeepQ.below (Below.refl _ _).drew, Nat.le_refl _, oR.drew, oA.drew, oP.drew, ⟨_, rfl, oX.drew⟩, (fun h => by cases h), (fun h => by cases h), (fun h => by cases h), (fun h => by cases h), (fun h => by cases h), (fun h => by cases h), (fun h => by cases h), (fun h => by cases h), (fun h => by cases h)⟩
          · refine StepsU.run rfl ?_ ?_
            · intro L U wr hF hlk haf A K hA hK
              have HA : Hid (A = putAll _ _ U) := hA
              clear hA
              simp [Aft, Region.binds] at haf
              obtain ⟨fb, fk, fs, oR, oA, oP, rX, f0, f1, f2, f3, f4, f5, f6, f7, s8⟩ := hF
              have e0 : A.tmps[0]? = some (.slice (some ⟨gE, oE, none⟩) nX cX) := by rw [HA.out]; kernel_rfl
              refine ⟨?_⟩
              go_simp
              refine hK (upd U 37 (.slice (some ⟨gE, oE, none⟩) nX cX)) _ _ ?_ ?_
              · rw [HA.out]; kernel_rfl
              · exact ⟨fb, fk, fs, oR, oA, oP, rX, (fun _ => rfl), f1, f2, f3, f4, f5, f6, f7, s8⟩
            refine StepsU.run rfl ?_ ?_
            · intro L U wr hF hlk haf A K hA hK
              have HA : Hid (A = putAll _ _ U) := hA
              clear hA
              simp [Aft, Region.binds] at haf
              obtain ⟨fb, fk, fs, oR, oA, oP, rX, f0, f1, f2, f3, f4, f5, f6, f7, s8⟩ := hF
              have e5 : A.tmps[5]? = some (.int .i64 k) := by rw [HA.out]; kernel_rfl
              refine ⟨?_⟩
              go_simp
              refine hK (upd U 38 (.int .i64 k)) _ _ ?_ ?_
              · rw [HA.out]; kernel_rfl
              · exact ⟨fb, fk, fs, oR, oA, oP, rX, f0, (fun _ => rfl), f2, f3, f4, f5, f6, f7, s8⟩
            refine StepsU.run rfl ?_ ?_
            · intro L U wr hF hlk haf A K hA hK
              have HA : Hid (A = putAll _ _ U) := hA
              clear hA
              simp [Aft, Region.binds] at haf
              obtain ⟨fb, fk, fs, oR, oA, oP, rX, f0, f1, f2, f3, f4, f5, f6, f7, s8⟩ := hF
              have g0 := f0 (by simp [haf])
              have g1 := f1 (by simp [haf])
              have e37 := rd HA.out 37 (by kernel_rfl) g0
              have e38 := rd HA.out 38 (by kernel_rfl) g1
              refine ⟨?_⟩
              go_simp
              refine hK (upd U 39 (.pointer (some ⟨gE, oE + k * 2, none⟩))) _ _ ?_ ?_
              · rw [HA.out]; kernel_rfl
              · exact ⟨fb, fk, fs, oR, oA, oP, rX, f0, f1, (fun _ => rfl), f3, f4, f5, f6, f7, s8⟩
            refine StepsU.run rfl ?_ ?_
            · intro L U wr hF hlk haf A K hA hK
              have HA : Hid (A = putAll _ _ U) := hA
              clear hA
              simp [Aft, Region.binds] at haf
              obtain ⟨fb, fk, fs, oR, oA, oP, rX, f0, f1, f2, f3, f4, f5, f6, f7, s8⟩ := hF
              have g2 := f2 (by simp [haf])
              have e39 := rd HA.out 39 (by kernel_rfl) g2
              refine ⟨?_⟩
              go_simp
              refine hK (upd U 40 (.pointer (some ⟨gE, oE + k * 2, none⟩))) _ _ ?_ ?_
              · rw [HA.out]; kernel_rfl
              · exact ⟨fb, fk, fs, oR, oA, oP, rX, f0, f1, f2, (fun _ => rfl), f4, f5, f6, f7, s8⟩
            refine StepsU.run rfl ?_ ?_
            · intro L U wr hF hlk haf A K hA hK
              have HA : Hid (A = putAll _ _ U) := hA
              clear hA
              simp [Aft, Region.binds] at haf
              obtain ⟨fb, fk, fs, oR, oA, oP, rX, f0, f1, f2, f3, f4, f5, f6, f7, s8⟩ := hF
              have g3 := f3 (by simp [haf])
              have kA0 := (fb.cell (p := ⟨gE, oE + k * 2, none⟩) (World.block_lt_of_cell? w _ K1.out)).trans K1.out
              have e40 := rd HA.out 40 (by kernel_rfl) g3
              refine ⟨?_⟩
              go_simp
              refine hK (upd U 41 (.int .i64 (u : Nat))) _ _ ?_ ?_
              · rw [HA.out]; kernel_rfl
              · exact ⟨fb, fk, fs, oR, oA, oP, rX, f0, f1, f2, f3, (fun _ => rfl), f5, f6, f7, s8⟩
            refine StepsU.run rfl ?_ ?_
            · intro L U wr hF hlk haf A K hA hK
              have HA : Hid (A = putAll _ _ U) := hA
              clear hA
              simp [Aft, Region.binds] at haf
              obtain ⟨fb, fk, fs, oR, oA, oP, rX, f0, f1, f2, f3, f4, f5, f6, f7, s8⟩ := hF
              have e6 : A.tmps[6]? = some (.pointer (some ⟨w1.heap.size, 0, none⟩)) := by rw [HA.out]; kernel_rfl
              have c0 := oP.cell 0
              have c1 := oP.cell 1
              simp at c0
              simp at c1
              refine ⟨?_⟩
              go_simp
              refine hK (upd U 42 (.agg #[.bool xP9, .slice aP nP cP])) _ _ ?_ ?_
              · rw [HA.out]; kernel_rfl
              · exact ⟨fb, fk, fs, oR, oA, oP, rX, f0, f1, f2, f3, f4, (fun _ => rfl), f6, f7, s8⟩
            refine StepsU.run rfl ?_ ?_
            · intro L U wr hF hlk haf A K hA hK
              have HA : Hid (A = putAll _ _ U) := hA
              clear hA
              simp [Aft, Region.binds] at haf
              obtain ⟨fb, fk, fs, oR, oA, oP, rX, f0, f1, f2, f3, f4, f5, f6, f7, s8⟩ := hF
              have g4 := f4 (by simp [haf])
              have e41 := rd HA.out 41 (by kernel_rfl) g4
              have g5 := f5 (by simp [haf])
              have e42 := rd HA.out 42 (by kernel_rfl) g5
              refine ⟨?_⟩
              go_simp
              refine (putn_h u _ z _ (hP.keepQ fk)).mono ?_
              rintro e w1 ⟨v9, rfl, hr, hb⟩
              go_simp
              refine hK (upd U 43 v9) _ _ ?_ ?_
              · rw [HA.out]; kernel_rfl
              · exact ⟨(fb.step hb (Nat.le_refl _)), (fk.trans (KeepQ.below hb)), (Nat.le_trans fs hb.size), (oR.stay hb), (oA.stay hb), (oP.stay hb), (rX.stay hb), (mvQ mq_is (KeepQ.below hb) f0), (mvQ mq_is (KeepQ.below hb) f1), (mvQ mq_is (KeepQ.below hb) f2), (mvQ mq_is (KeepQ.below hb) f3), (mvQ mq_is (KeepQ.below hb) f4), (mvQ mq_is (KeepQ.below hb) f5), (fun _ => hr), (mvQ mq_rtm (KeepQ.below hb) f7), s8⟩
            refine StepsU.run rfl ?_ ?_
            · intro L U wr hF hlk haf A K hA hK
              have HA : Hid (A = putAll _ _ U) := hA
              clear hA
              simp [Aft, Region.binds] at haf
              obtain ⟨fb, fk, fs, oR, oA, oP, rX, f0, f1, f2, f3, f4, f5, f6, f7, s8⟩ := hF
              have g6 := f6 (by simp [haf])
              obtain ⟨y1, y2, y3, hv, h1, h2, h3, h4, h5⟩ := g6
              have e43 := rd HA.out 43 (by kernel_rfl) hv
              refine ⟨?_⟩
              go_simp
              have hs8 : L 8 = false := by cases h : L 8 with | false => rfl | true => rw [s8 h] at hlk; cases hlk
              refine hK (upd U 44 (.agg #[.slice y1 y2 y3, .bool false, .slice none 0 0])) _ _ ?_ ?_
              · rw [HA.out]; kernel_rfl
              · exact ⟨fb, fk, fs, oR, oA, oP, (flip_v (P := fun v => BlkV _ _ _ v) hs8 rX), f0, f1, f2, f3, f4, f5, f6, (fun _ => ⟨_, _, _, _, _, _, _, rfl, ⟨h1, h2, h3, h4, h5, RNum.zeroN _ _, one_fine hu9 HZL.out, by have := word_lim; simp; omega⟩⟩), (fun _ => rfl)⟩
            refine StepsU.run rfl ?_ StepsU.nil
            · intro L U wr hF hlk haf A K hA hK
              have HA : Hid (A = putAll _ _ U) := hA
              clear hA
              simp [Aft, Region.binds] at haf
              obtain ⟨fb, fk, fs, oR, oA, oP, rX, f0, f1, f2, f3, f4, f5, f6, f7, s8⟩ := hF
              have g7 := f7 (by simp [haf])
              obtain ⟨yp, yq, yr, yx, ya, yn, yc, hsrc⟩ := RTermR.shape g7
              have e44 := rd HA.out 44 (by kernel_rfl) hsrc
              have e8 : A.tmps[8]? = some (.pointer (some ⟨w1.heap.size + 1, 0, none⟩)) := by rw [HA.out]; kernel_rfl
              have rV := rX
              rw [hlk, cond_false] at rV
              obtain ⟨cs, hcs, hblk⟩ := rV
              injection hcs with hcs
              subst hcs
              have q0 := hblk.frozen 0
              have q1 := hblk.frozen 1
              have q2 := hblk.frozen 2
              have c0 := hblk.cell 0
              have c1 := hblk.cell 1
              have c2 := hblk.cell 2
              simp at c0
              simp at c1
              simp at c2
              have hlt := hblk.lt
              refine ⟨?_⟩
              go_simp
              refine hK U _ _ ?_ ?_
              · exact HA.out
              · exact ⟨(below_stores geX [.slice yp yq yr, .bool yx, .slice ya yn yc] 0 fb), (fk.trans (keepQ_stores (by decide) (by decide) [.slice yp yq yr, .bool yx, .slice ya yn yc] 0 hblk (nuT _ _ _ _ _ _ _) (nuT _ _ _ _ _ _ _))), (by simp; exact fs), (oR.otherS neXR 0 [.slice yp yq yr, .bool yx, .slice ya yn yc]), (oA.otherS neXA 0 [.slice yp yq yr, .bool yx, .slice ya yn yc]), (oP.otherS neXP 0 [.slice yp yq yr, .bool yx, .slice ya yn yc]), (by simp only [cond_true, Bool.true_or, beq_self_eq_true]; exact ⟨_, hsrc, hblk.overS [.slice yp yq yr, .bool yx, .slice ya yn yc] 0 rfl⟩), (mvQ mq_is (keepQ_stores (by decide) (by decide) [.slice yp yq yr, .bool yx, .slice ya yn yc] 0 hblk (nuT _ _ _ _ _ _ _) (nuT _ _ _ _ _ _ _)) f0), (mvQ mq_is (keepQ_stores (by decide) (by decide) [.slice yp yq yr, .bool yx, .slice ya yn yc] 0 hblk (nuT _ _ _ _ _ _ _) (nuT _ _ _ _ _ _ _)) f1), (mvQ mq_is (keepQ_stores (by decide) (by decide) [.slice yp yq yr, .bool yx, .slice ya yn yc] 0 hblk (nuT _ _ _ _ _ _ _) (nuT _ _ _ _ _ _ _)) f2), (mvQ mq_is (keepQ_stores (by decide) (by decide) [.slice yp yq yr, .bool yx, .slice ya yn yc] 0 hblk (nuT _ _ _ _ _ _ _) (nuT _ _ _ _ _ _ _)) f3), (mvQ mq_is (keepQ_stores (by decide) (by decide) [.slice yp yq yr, .bool yx, .slice ya yn yc] 0 hblk (nuT _ _ _ _ _ _ _) (nuT _ _ _ _ _ _ _)) f4), (mvQ mq_is (keepQ_stores (by decide) (by decide) [.slice yp yq yr, .bool yx, .slice ya yn yc] 0 hblk (nuT _ _ _ _ _ _ _) (nuT _ _ _ _ _ _ _)) f5), (mvQ mq_qts (keepQ_stores (by decide) (by decide) [.slice yp yq yr, .bool yx, .slice ya yn yc] 0 hblk (nuT _ _ _ _ _ _ _) (nuT _ _ _ _ _ _ _)) f6), (mvQ mq_rtm (keepQ_stores (by decide) (by decide) [.slice yp yq yr, .bool yx, .slice ya yn yc] 0 hblk (nuT _ _ _ _ _ _ _) (nuT _ _ _ _ _ _ _)) f7), (fun _ => by simp [haf])⟩
          clear hbw oR oA oP oX
          intro L U2 V2 hall hF
          obtain ⟨hbw, fk, fs, oR, oA, oP, rX, f0, f1, f2, f3, f4, f5, f6, f7, s8⟩ := hF
          clear s8
          have g0 := f0 (hall 0 (by decide))
          have g1 := f1 (hall 1 (by decide))
          have g2 := f2 (hall 2 (by decide))
          have g3 := f3 (hall 3 (by decide))
          have g4 := f4 (hall 4 (by decide))
          have g5 := f5 (hall 5 (by decide))
          have g6 := f6 (hall 6 (by decide))
          have g7 := f7 (hall 7 (by decide))
          rw [hall 8 (by decide), cond_true] at rX
          clear hall f0 f1 f2 f3 f4 f5 f6 f7
          replace hA := hA.keepQ fk
          replace hP := hP.keepQ fk
          obtain ⟨csX, hcsX, oX⟩ := rX
          obtain ⟨pX, qX, rX, xX, aX, nX, cX, hvX⟩ := RTermR.shape g7
          have hX : RTermR _ _ _ _ := g7
          rw [hvX] at hX hcsX
          injection hcsX with hcsX
          subst hcsX
          clear hvX
          replace ltX := oX.lt
          replace ltR := oR.lt
          replace ltA := oA.lt
          replace ltP := oP.lt
          try clear g0
          try clear g1
          try clear g2
          try clear g3
          try clear g4
          try clear g5
          try clear g6
          try clear g7
          clear hbW
          simp only [setM_some, setM_none, setM_nil]
          clear fk fs
          obtain ⟨Ac0, Ac1, Ac2⟩ := oA.three
          obtain ⟨Ak0, Ak1, Ak2⟩ := oA.frozen3
          obtain ⟨Xc0, Xc1, Xc2⟩ := oX.three
          obtain ⟨Xk0, Xk1, Xk2⟩ := oX.frozen3
          go_wp2_with fail
          refine (radd_any _ _ ps (one u z) r 0 _ hA.val hX).mono ?_
          rintro e w3 ⟨u9, c9, rfl, hU, hb⟩
          clear Ac0 Ac1 Ac2 Ak0 Ak1 Ak2
          clear Xc0 Xc1 Xc2 Xk0 Xk1 Xk2
          replace oR := oR.stay hb
          replace ltR := oR.lt
          replace oA := oA.stay hb
          replace ltA := oA.lt
          replace oP := oP.stay hb
          replace ltP := oP.lt
          replace oX := oX.stay hb
          replace ltX := oX.lt
          replace hA := hA.below hb
          replace hP := hP.below hb
          replace hX := hX.below hb
          replace hbw := hbw.step hb (Nat.le_refl _)
          clear hb
          rcases hU with ⟨hok, rfl, hU⟩ | ⟨hno, rfl, hU⟩
          · have HOK : Hid (tAddOk _ _ _ _) := hok
            clear hok
            obtain ⟨pU, qU, rU, xU, aU, nU, cU, rfl, hU⟩ := hU
            obtain ⟨Ac0, Ac1, Ac2⟩ := oA.three
            obtain ⟨Ak0, Ak1, Ak2⟩ := oA.frozen3
            go_wp2
            clear Ac0 Ac1 Ac2 Ak0 Ak1 Ak2
            obtain ⟨hK, hB, hO⟩ := resTq (by decide) (by decide) oA hbw lwA pU qU rU xU aU nU cU
            replace oR := oR.otherS (show w.heap.size + 1 ≠ w.heap.size by omega) 0 [.slice pU qU rU, .bool xU, .slice aU nU cU]
            replace oP := oP.otherS neAP 0 [.slice pU qU rU, .bool xU, .slice aU nU cU]
            replace oX := oX.otherS neAX 0 [.slice pU qU rU, .bool xU, .slice aU nU cU]
            replace hA := hA.keepQ hK
            replace hP := hP.keepQ hK
            replace hX := hX.keepQ hK
            replace hU := hU.keepQ hK
            replace oA := hO
            replace hbw := hB
            clear hK
            go_roundw
            case rel =>
              refine ⟨k + 1, _, _, pU, qU, rU, xU, aU, nU, cU, by omega, by go_num, oR, oA, hU, ?_, hbw⟩
              intro b s
              rw [HST.out b s]
              rw [HXP.out, HXR.out]
              exact ⟨fun h => ⟨by simp, HOK.out, h⟩, fun h => h.2.2⟩
            case measure => simp [intOf]; omega
          · have HNO : Hid (¬ tAddOk _ _ _ _) := hno
            clear hno
            obtain ⟨pU, qU, rU, xU, aU, nU, cU, rfl, hU⟩ := hU
            have HNN : Hid (∀ b s, ¬ Tm ms [] 0 b s) := by
              intro b s hh
              have hh2 := ((HST.out b s).1 hh).2.1
              rw [HXP.out, HXR.out] at hh2
              exact HNO.out hh2
            obtain ⟨Ac0, Ac1, Ac2⟩ := oA.three
            obtain ⟨Ak0, Ak1, Ak2⟩ := oA.frozen3
            obtain ⟨hK, hB, hO⟩ := resTq (by decide) (by decide) oA hbw lwA pU qU rU xU aU nU cU
            replace oR := oR.otherS (show w.heap.size + 1 ≠ w.heap.size by omega) 0 [.slice pU qU rU, .bool xU, .slice aU nU cU]
            obtain ⟨Rz0, Rz1, Rz2⟩ := Blk.three (show Blk _ (((w3.setCell ⟨w.heap.size + 1, 0, none⟩ (.slice pU qU rU)).setCell ⟨w.heap.size + 1, 1, none⟩ (.bool xU)).setCell ⟨w.heap.size + 1, 2, none⟩ (.slice aU nU cU)) _ _ from oR)
            obtain ⟨Rf0, Rf1, Rf2⟩ := Blk.frozen3 (show Blk _ (((w3.setCell ⟨w.heap.size + 1, 0, none⟩ (.slice pU qU rU)).setCell ⟨w.heap.size + 1, 1, none⟩ (.bool xU)).setCell ⟨w.heap.size + 1, 2, none⟩ (.slice aU nU cU)) _ _ from oR)
            try simp only []
            try go_at_K
            repeat (first | go_values | go_skip | go_guarded | go_step | go_upon)
            refine bodyPost_ret (v := .tuple #[.agg #[.slice none 0 0, .bool false, .slice none 0 0], .int .i64 11]) (by simp [results, Tryz.results12, go_sem, Rz0, Rz1, Rz2]) rfl ?_
            obtain ⟨K1, B1, _⟩ := resTq (by decide) (by decide) oR hB lwR none 0 0 false none 0 0
            exact ⟨_, _, [], 0, rfl, (RTP.zero _).val, ⟨(fun h => by cases h), fun _ => HNN.out⟩, B1⟩
        · have hv1 : v < 0 := by omega
          have HXP : Hid (xP v z = []) := if_pos (Or.inl hv1)
          have HXR : Hid (xR v z = z) := if_pos hv1
          have A0 := (hbw.cell (p := ⟨gE, oE + k * 2, none⟩) (World.block_lt_of_cell? w _ K1.out)).trans K1.out
          have hX : RTP ((w1.alloc (.cells #[.bool xP9, .slice aP nP cP] 39 (0, 0))).alloc (.cells #[.slice none 0 0, .bool xP9, .slice aP nP cP] 41 (0, 0))) none 0 0 xP9 aP nP cP [] z := ⟨rfl, Nat.le_refl _, Nat.zero_le _, fun _ => rfl, QArr.nil _ _, hP, Fine.nil, HZL.out⟩
          obtain ⟨Ac0, Ac1, Ac2⟩ := oA.three
          obtain ⟨Ak0, Ak1, Ak2⟩ := oA.frozen3
          obtain ⟨Xc0, Xc1, Xc2⟩ := oX.three
          obtain ⟨Xk0, Xk1, Xk2⟩ := oX.frozen3
          go_wp2_with fail
          refine (radd_any _ _ ps [] r z _ hA.val hX.val).mono ?_
          rintro e w2 ⟨u9, c9, rfl, hU, hb⟩
          clear Pc0 Pc1 Pk0 Pk1
          clear Ac0 Ac1 Ac2 Ak0 Ak1 Ak2
          clear Xc0 Xc1 Xc2 Xk0 Xk1 Xk2
          replace oR := oR.stay hb
          replace ltR := oR.lt
          replace oA := oA.stay hb
          replace ltA := oA.lt
          replace oP := oP.stay hb
          replace ltP := oP.lt
          replace oX := oX.stay hb
          replace ltX := oX.lt
          replace hA := hA.below hb
          replace hP := hP.below hb
          replace hX := hX.below hb
          replace hbw := hbw.step hb (Nat.le_refl _)
          clear hb
          rcases hU with ⟨hok, rfl, hU⟩ | ⟨hno, rfl, hU⟩
          · have HOK : Hid (tAddOk _ _ _ _) := hok
            clear hok
            obtain ⟨pU, qU, rU, xU, aU, nU, cU, rfl, hU⟩ := hU
            obtain ⟨Ac0, Ac1, Ac2⟩ := oA.three
            obtain ⟨Ak0, Ak1, Ak2⟩ := oA.frozen3
            go_wp2
            clear Ac0 Ac1 Ac2 Ak0 Ak1 Ak2
            obtain ⟨hK, hB, hO⟩ := resTq (by decide) (by decide) oA hbw lwA pU qU rU xU aU nU cU
            replace oR := oR.otherS (show w.heap.size + 1 ≠ w.heap.size by omega) 0 [.slice pU qU rU, .bool xU, .slice aU nU cU]
            replace oP := oP.otherS neAP 0 [.slice pU qU rU, .bool xU, .slice aU nU cU]
            replace oX := oX.otherS neAX 0 [.slice pU qU rU, .bool xU, .slice aU nU cU]
            replace hA := hA.keepQ hK
            replace hP := hP.keepQ hK
            replace hX := hX.keepQ hK
            replace hU := hU.keepQ hK
            replace oA := hO
            replace hbw := hB
            clear hK
            go_roundw
            case rel =>
              refine ⟨k + 1, _, _, pU, qU, rU, xU, aU, nU, cU, by omega, by go_num, oR, oA, hU, ?_, hbw⟩
              intro b s
              rw [HST.out b s]
              rw [HXP.out, HXR.out]
              exact ⟨fun h => ⟨by simp, HOK.out, h⟩, fun h => h.2.2⟩
            case measure => simp [intOf]; omega
          · have HNO : Hid (¬ tAddOk _ _ _ _) := hno
            clear hno
            obtain ⟨pU, qU, rU, xU, aU, nU, cU, rfl, hU⟩ := hU
            have HNN : Hid (∀ b s, ¬ Tm ms [] 0 b s) := by
              intro b s hh
              have hh2 := ((HST.out b s).1 hh).2.1
              rw [HXP.out, HXR.out] at hh2
              exact HNO.out hh2
            obtain ⟨Ac0, Ac1, Ac2⟩ := oA.three
            obtain ⟨Ak0, Ak1, Ak2⟩ := oA.frozen3
            obtain ⟨hK, hB, hO⟩ := resTq (by decide) (by decide) oA hbw lwA pU qU rU xU aU nU cU
            replace oR := oR.otherS (show w.heap.size + 1 ≠ w.heap.size by omega) 0 [.slice pU qU rU, .bool xU, .slice aU nU cU]
            obtain ⟨Rz0, Rz1, Rz2⟩ := Blk.three (show Blk _ (((w2.setCell ⟨w.heap.size + 1, 0, none⟩ (.slice pU qU rU)).setCell ⟨w.heap.size + 1, 1, none⟩ (.bool xU)).setCell ⟨w.heap.size + 1, 2, none⟩ (.slice aU nU cU)) _ _ from oR)
            obtain ⟨Rf0, Rf1, Rf2⟩ := Blk.frozen3 (show Blk _ (((w2.setCell ⟨w.heap.size + 1, 0, none⟩ (.slice pU qU rU)).setCell ⟨w.heap.size + 1, 1, none⟩ (.bool xU)).setCell ⟨w.heap.size + 1, 2, none⟩ (.slice aU nU cU)) _ _ from oR)
            try simp only []
            try go_at_K
            repeat (first | go_values | go_skip | go_guarded | go_step | go_upon)
            refine bodyPost_ret (v := .tuple #[.agg #[.slice none 0 0, .bool false, .slice none 0 0], .int .i64 11]) (by simp [results, Tryz.results12, go_sem, Rz0, Rz1, Rz2]) rfl ?_
            obtain ⟨K1, B1, _⟩ := resTq (by decide) (by decide) oR hB lwR none 0 0 false none 0 0
            exact ⟨_, _, [], 0, rfl, (RTP.zero _).val, ⟨(fun h => by cases h), fun _ => HNN.out⟩, B1⟩
      · have hc2 : (co != 0) = true := by rw [bne_iff_ne]; exact hc
        have HC : Hid (¬ co = 0) := hc
        clear hc
        obtain ⟨Rc0, Rc1, Rc2⟩ := oR.three
        obtain ⟨Rk0, Rk1, Rk2⟩ := oR.frozen3
        try simp only []
        try go_at_K
        repeat (first | go_values | go_skip | go_guarded | go_step | go_upon)
        refine bodyPost_ret (v := .tuple #[.agg #[.slice none 0 0, .bool false, .slice none 0 0], .int .i64 co]) (by simp [results, Tryz.results12, go_sem, Rc0, Rc1, Rc2]) rfl ?_
        obtain ⟨K1, B1, _⟩ := resTq (by decide) (by decide) oR hbw lwR none 0 0 false none 0 0
        exact ⟨_, _, [], 0, rfl, (RTP.zero _).val, ⟨fun h => absurd h HC.out, fun _ b s hh => HC.out ((HST.out b s).1 hh).1⟩, B1⟩
    · have HT : Hid (Tm ms [] 0 ps r) := (HI.out ps r).1 (by rw [List.drop_eq_nil_of_le (by rw [HLN.out]; omega)]; exact ⟨rfl, rfl⟩)
      obtain ⟨Rc0, Rc1, Rc2⟩ := oR.three
      obtain ⟨Rk0, Rk1, Rk2⟩ := oR.frozen3
      obtain ⟨Ac0, Ac1, Ac2⟩ := oA.three
      obtain ⟨Ak0, Ak1, Ak2⟩ := oA.frozen3
      try simp only []
      try go_at_K
      repeat (first | go_values | go_skip | go_guarded | go_step | go_upon)
      refine bodyPost_ret (v := .tuple #[.agg #[.slice pA qA rA, .bool xA, .slice aA nA cA], .int .i64 0]) (by simp [results, Tryz.results12, go_sem, Rc0, Rc1, Rc2]) rfl ?_
      obtain ⟨K1, B1, _⟩ := resTq (by decide) (by decide) oR hbw lwR pA qA rA xA aA nA cA
      exact ⟨_, _, ps, r, rfl, (hA.keepQ K1).val, ⟨fun _ => HT.out, fun h => absurd rfl h⟩, B1⟩

end Go.Proofs.YteefniagebcagaaGreatDoor
