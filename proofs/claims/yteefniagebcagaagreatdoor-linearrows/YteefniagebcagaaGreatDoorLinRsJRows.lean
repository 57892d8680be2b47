/- The walk of suretylaw03.LinearRows; they prove no statement of the seat. -/
import Derived.Test.YteefniagebcagaaGreatDoorRefHJRows
import Derived.Test.YteefniagebcagaaGreatDoorRefIJRows
import Derived.Test.YteefniagebcagaaGreatDoorRefJJRows
import Derived.Test.YteefniagebcagaaGreatDoorRefKJRows
import Derived.Test.YteefniagebcagaaGreatDoorLinZJRows
namespace Go.Proofs.YteefniagebcagaaGreatDoor
open Go.RowKit
set_option linter.unusedVariables false

theorem field_row (a : Option Addr) (n c : Nat) (S : ByteArray) (w : World) : (Instr.field 79 (Value.agg #[.slice a n c, .string S]) 0).run Tryz.prog w = .ok (.slice a n c) w := by kernel_rfl
theorem both_not {ok : Prop} {a : List (Nat × Int)} {m : Int} {u v : Value} {c d : Int} {w w1 : World} (h : RRes ok a m u c w) (k : QRes ok a m v d w1) : ∃ ps j, RowR w u ps j ∧ RTermR w1 v ps j ∧ c = d ∧ Fine ps := by
  rcases h with ⟨h1, rfl, h2⟩ | ⟨h1, rfl, h2⟩ <;> rcases k with ⟨k1, rfl, k2⟩ | ⟨k1, rfl, k2⟩
  · obtain ⟨_, _, _, _, _, _, _, _, h3⟩ := k2
    exact ⟨a, m, h2, ⟨_, _, _, _, _, _, _, by assumption, h3⟩, rfl, h3.fine⟩
  · exact absurd h1 k1
  · exact absurd k1 h1
  · exact ⟨[], 0, h2, k2, rfl, Fine.nil⟩

theorem tg_fine {a : List (Nat × Int)} (h : Fine a) : Fine (tgP a) := by
  by_cases hg : (cm a).natAbs < 2
  · rw [show tgP a = a from if_pos hg]; exact h
  · rw [show tgP a = divP a (cm a) from if_neg hg]
    exact divP_fine h (fun k => hg (by rw [k]; decide)) (cm_dvd a)
theorem MArr.stores9 {w : World} {ao : Option Addr} {ms : List (Int × ByteArray)} (h : MArr w ao ms) {t : TypeId} {b : Nat} {p : Option Addr} {n c : Nat} {S : ByteArray} (hb : Blk t w b #[.slice p n c, .string S]) (vs : List Value) : MArr (stores w b 0 vs) ao ms := by
  rcases h with h | ⟨g, o, he, hc⟩
  · exact Or.inl h
  · by_cases hm : ms = []
    · exact Or.inl hm
    · have hne : g ≠ b := by
        intro e
        subst e
        have h0 := (hc 0 (List.length_pos_iff.2 hm)).1
        rw [cell_of_row w g _ _ _ (0, 0) hb] at h0
        match o, h0 with
        | 0, h0 => simp at h0
        | 1, h0 => simp at h0
        | o + 2, h0 => simp at h0
      have hs := stores_other b g hne vs w 0
      exact Or.inr ⟨g, o, he, fun i hi => ⟨(World.cell?_of_block (w := w) hs).trans (hc i hi).1, (World.cell?_of_block (w := w) hs).trans (hc i hi).2⟩⟩
theorem RRes.shape {ok : Prop} {a : List (Nat × Int)} {m : Int} {u : Value} {c : Int} {w : World} (h : RRes ok a m u c w) : ∃ p q r x a n c y d l f, u = .agg #[.slice p q r, .bool x, .slice a n c, .bool y, .slice d l f] := by
  rcases h with ⟨_, _, h⟩ | ⟨_, _, h⟩ <;> exact h.shape
theorem RRes.below {ok : Prop} {a : List (Nat × Int)} {m : Int} {u : Value} {c : Int} {w w' : World} (h : RRes ok a m u c w) (hb : Below w.heap.size w w') : RRes ok a m u c w' := by
  rcases h with ⟨h1, h2, h⟩ | ⟨h1, h2, h⟩
  · exact Or.inl ⟨h1, h2, h.below hb⟩
  · exact Or.inr ⟨h1, h2, h.below hb⟩
theorem QRes.shape {ok : Prop} {a : List (Nat × Int)} {m : Int} {u : Value} {c : Int} {w : World} (h : QRes ok a m u c w) : ∃ p q r x a n c, u = .agg #[.slice p q r, .bool x, .slice a n c] := by
  rcases h with ⟨_, _, h⟩ | ⟨_, _, h⟩ <;> exact h.shape
theorem QRes.below {ok : Prop} {a : List (Nat × Int)} {m : Int} {u : Value} {c : Int} {w w' : World} (h : QRes ok a m u c w) (hb : Below w.heap.size w w') : QRes ok a m u c w' := by
  rcases h with ⟨h1, h2, h⟩ | ⟨h1, h2, h⟩
  · exact Or.inl ⟨h1, h2, h.below hb⟩
  · exact Or.inr ⟨h1, h2, h.below hb⟩

set_option maxRecDepth 20000 in
set_option maxHeartbeats 16000000 in
theorem linearRows_any (aX : Option Addr) (nX cX : Nat) (S : ByteArray) (ms : List (Int × ByteArray)) (w : World) (ht : Tab w) (hm : MArr w aX ms) (hl : ms.length = nX) :
    Calls Tryz.prog 6 #[.agg #[.slice aX nX cX, .string S]] w fun e w' => e = .returned (.bool true) ∧ Below w.heap.size w w' := by
  have oX := (Blk.new w 79 #[.slice aX nX cX, .string S])
  have hbw : Below w.heap.size w (w.alloc (.cells #[.slice aX nX cX, .string S] 79 (0, 0))) := by go_grown
  have ltX := oX.lt
  have lwX : w.heap.size ≤ w.heap.size := by omega
  have HTB : Hid (Tab w) := ht
  have HM : Hid (MArr w aX ms) := hm
  have HLN : Hid (ms.length = nX) := hl
  clear ht hm hl
  go_enter Tryz.func6, Tryz.ntmps6
  go_wp2_with fail
  refine (awake3_any _ (HTB.out.below hbw)).mono ?_
  rintro e w1 ⟨rfl, hb⟩
  replace oX := oX.stay hb
  replace ltX := oX.lt
  replace hbw := hbw.step hb (Nat.le_refl _)
  clear hb
  obtain ⟨Xc0, Xc1, Xk0, Xk1⟩ := oX.two
  go_wp2_with fail
  refine (row_any aX nX cX S ms _ (HM.out.below hbw) HLN.out).mono ?_
  rintro e w2 ⟨aA, nA, cA, rfl, hnA, hMA, hb⟩
  clear Xc0 Xc1 Xk0 Xk1
  replace oX := oX.stay hb
  replace ltX := oX.lt
  replace hbw := hbw.step hb (Nat.le_refl _)
  clear hb
  have HNA : Hid ((rowM ms).length = nA) := hnA
  clear hnA
  have hB2 := below_stores lwX [.slice aA nA cA, .string (cutS S)] 0 hbw
  have oX2 : Blk 79 (stores w2 w.heap.size 0 [.slice aA nA cA, .string (cutS S)]) w.heap.size #[.slice aA nA cA, .string (cutS S)] := Blk.overS [.slice aA nA cA, .string (cutS S)] 0 oX rfl
  have hM2 := hMA.stores9 oX [.slice aA nA cA, .string (cutS S)]
  obtain ⟨Yc0, Yc1, -, -⟩ := Blk.two (show Blk _ ((w2.setCell ⟨w.heap.size, 0, none⟩ (.slice aA nA cA)).setCell ⟨w.heap.size, 1, none⟩ (.string (cutS S))) _ _ from oX2)
  obtain ⟨Xc0, Xc1, Xk0, Xk1⟩ := oX.two
  go_wp2_with fail
  refine (lread_any aA nA cA (cutS S) (rowM ms) _ hM2 HNA.out (fun h => rowM_size h) (by have := cutS_size S; omega)).mono ?_
  rintro e w3 ⟨_, rfl, ⟨pR, qR, rR, xR, aR, nR, cR, yR, dR, lR, fR, rfl, hR, hRm⟩, hb⟩
  clear Yc0 Yc1
  clear Xc0 Xc1 Xk0 Xk1
  clear oX ltX hMA hbw
  have oX := Blk.stay oX2 hb
  have ltX := oX.lt
  have hMA := MArr.below hM2 hb
  have hbw := hB2.step hb (Nat.le_refl _)
  clear hb oX2 hM2 hB2
  have hn := below_new w3 (.cells #[.slice pR qR rR, .bool xR, .slice aR nR cR, .bool yR, .slice dR lR fR] 82 (0, 0))
  have oR := Blk.new w3 82 #[.slice pR qR rR, .bool xR, .slice aR nR cR, .bool yR, .slice dR lR fR]
  have neXR : w.heap.size ≠ w3.heap.size := by have := ltX; (try simp at this); omega
  have lwR : w.heap.size ≤ w3.heap.size := by have := hbw.size; (try simp at this); omega
  replace oX := oX.stay hn
  replace ltX := oX.lt
  replace hMA := hMA.below hn
  replace hR := hR.below hn
  replace hRm := hRm.below hn
  replace hbw := hbw.step hn (Nat.le_refl _)
  clear hn
  have ltR := oR.lt
  obtain ⟨Xc0, Xc1, Xk0, Xk1⟩ := oX.two
  go_wp2_with fail
  refine (rread_any aA nA cA (cutS S) (rowM ms) _ hMA HNA.out (fun h => rowM_size h) (by have := cutS_size S; omega)).mono ?_
  rintro e w4 ⟨_, rfl, ⟨pB, qB, rB, xB, aB, nB, cB, rfl, hB⟩, hb⟩
  clear Xc0 Xc1 Xk0 Xk1
  replace oX := oX.stay hb
  replace ltX := oX.lt
  replace oR := oR.stay hb
  replace ltR := oR.lt
  replace hMA := hMA.below hb
  replace hR := hR.below hb
  replace hRm := hRm.below hb
  replace hbw := hbw.step hb (Nat.le_refl _)
  clear hb
  have hn := below_new w4 (.cells #[.slice pB qB rB, .bool xB, .slice aB nB cB] 86 (0, 0))
  have oB := Blk.new w4 86 #[.slice pB qB rB, .bool xB, .slice aB nB cB]
  have neXB : w.heap.size ≠ w4.heap.size := by have := ltX; (try simp at this); omega
  have neRB : w3.heap.size ≠ w4.heap.size := by have := ltR; (try simp at this); omega
  have lwB : w.heap.size ≤ w4.heap.size := by have := hbw.size; (try simp at this); omega
  replace oX := oX.stay hn
  replace ltX := oX.lt
  replace oR := oR.stay hn
  replace ltR := oR.lt
  replace hMA := hMA.below hn
  replace hR := hR.below hn
  replace hRm := hRm.below hn
  replace hB := hB.below hn
  replace hbw := hbw.step hn (Nat.le_refl _)
  clear hn
  have ltB := oB.lt
  clear hMA
  have HEZ : Hid (rdE (rowM ms) (cutS S) ≠ 0 → rdP (rowM ms) (cutS S) = []) := fun h => if_neg h
  generalize rdP (rowM ms) (cutS S) = ps at hR hB HEZ
  generalize rdM (rowM ms) (cutS S) = m0 at hRm hB
  generalize rdE (rowM ms) (cutS S) = co at HEZ
  have HF : Hid (Fine ps) := hR.fine
  go_wp2
  generalize (w4.alloc (.cells #[.slice pB qB rB, .bool xB, .slice aB nB cB] 86 (0, 0))) = W4 at hbw oX oR oB ltX ltR ltB hR hRm hB ⊢
  clear ltX oX
  have hbW := hbw
  refine wp_region_M (by kernel_rfl) [25, 26, 27, 28, 29, 30, 31, 32, 33, 34, 35] [none, none, none, none, none, none, none, none, none, none, none, none, none, none, none, none, none, none, none, none, none, none, none, none, none, some 25, some 26, some 27, some 28, some 29, some 30, some 31, some 32, some 33, some 34, some 35] (fun U => by kernel_rfl) (fun L U wr => Below w.heap.size w wr ∧ KeepB W4 wr ∧ W4.heap.size ≤ wr.heap.size ∧ Blk 82 wr (w3.heap.size) #[.slice pR qR rR, .bool xR, .slice aR nR cR, .bool yR, .slice dR lR fR] ∧ Blk 86 wr (w4.heap.size) #[.slice pB qB rB, .bool xB, .slice aB nB cB] ∧ (L 0 = true → IS (.int .i64 co) (U 25) wr) ∧ (L 1 = true → IS (.int .i64 co) (U 26) wr) ∧ (L 2 = true → IS (.bool false) (U 27) wr) ∧ (L 3 = true → IS (.bool false) (U 28) wr) ∧ (L 4 = true → IS (.agg #[.slice pR qR rR, .bool xR, .slice aR nR cR, .bool yR, .slice dR lR fR]) (U 29) wr) ∧ (L 5 = true → PLN ps m0 (U 30) wr) ∧ (L 6 = true → IS (.agg #[.slice pB qB rB, .bool xB, .slice aB nB cB]) (U 31) wr) ∧ (L 7 = true → PLN ps m0 (U 32) wr) ∧ (L 8 = true → IS (.bool true) (U 33) wr) ∧ (L 9 = true → IS (.bool false) (U 34) wr) ∧ (L 10 = true → IS (.bool false) (U 35) wr)) (by kernel_rfl) ?_ ?_ ?_
  · exact fun U => ⟨hbw.drew, KeepB.below (Below.refl _ _).drew, Nat.le_refl _, oR.drew, oB.drew, (fun h => by cases h), (fun h => by cases h), (fun h => by cases h), (fun h => by cases h), (fun h => by cases h), (fun h => by cases h), (fun h => by cases h), (fun h => by cases h), (fun h => by cases h), (fun h => by cases h), (fun h => by cases h)⟩
  · refine StepsU.run rfl ?_ ?_
    · intro L U wr hF hlk haf A K hA hK
      have HA : Hid (A = putAll _ _ U) := hA
      clear hA
      simp [Aft, Region.binds] at haf
      obtain ⟨fb, fk, fs, oR, oB, f0, f1, f2, f3, f4, f5, f6, f7, f8, f9, f10⟩ := hF
      have e4 : A.tmps[4]? = some (.int .i64 co) := by rw [HA.out]; kernel_rfl
      refine ⟨?_⟩
      go_simp
      refine hK (upd U 25 (.int .i64 co)) _ _ ?_ ?_
      · rw [HA.out]; kernel_rfl
      · exact ⟨fb, fk, fs, oR, oB, (fun _ => rfl), f1, f2, f3, f4, f5, f6, f7, f8, f9, f10⟩
    refine StepsU.run rfl ?_ ?_
    · intro L U wr hF hlk haf A K hA hK
      have HA : Hid (A = putAll _ _ U) := hA
      clear hA
      simp [Aft, Region.binds] at haf
      obtain ⟨fb, fk, fs, oR, oB, f0, f1, f2, f3, f4, f5, f6, f7, f8, f9, f10⟩ := hF
      have e6 : A.tmps[6]? = some (.int .i64 co) := by rw [HA.out]; kernel_rfl
      refine ⟨?_⟩
      go_simp
      refine hK (upd U 26 (.int .i64 co)) _ _ ?_ ?_
      · rw [HA.out]; kernel_rfl
      · exact ⟨fb, fk, fs, oR, oB, f0, (fun _ => rfl), f2, f3, f4, f5, f6, f7, f8, f9, f10⟩
    refine StepsU.run rfl ?_ ?_
    · intro L U wr hF hlk haf A K hA hK
      have HA : Hid (A = putAll _ _ U) := hA
      clear hA
      simp [Aft, Region.binds] at haf
      obtain ⟨fb, fk, fs, oR, oB, f0, f1, f2, f3, f4, f5, f6, f7, f8, f9, f10⟩ := hF
      have g0 := f0 (by simp [haf])
      have g1 := f1 (by simp [haf])
      have e25 := rd HA.out 25 (by kernel_rfl) g0
      have e26 := rd HA.out 26 (by kernel_rfl) g1
      refine ⟨?_⟩
      go_simp
      refine hK (upd U 27 (.bool false)) _ _ ?_ ?_
      · rw [HA.out]; kernel_rfl
      · exact ⟨fb, fk, fs, oR, oB, f0, f1, (fun _ => rfl), f3, f4, f5, f6, f7, f8, f9, f10⟩
    refine StepsU.run rfl ?_ ?_
    · intro L U wr hF hlk haf A K hA hK
      have HA : Hid (A = putAll _ _ U) := hA
      clear hA
      simp [Aft, Region.binds] at haf
      obtain ⟨fb, fk, fs, oR, oB, f0, f1, f2, f3, f4, f5, f6, f7, f8, f9, f10⟩ := hF
      have g2 := f2 (by simp [haf])
      have e27 := rd HA.out 27 (by kernel_rfl) rfl
      refine ⟨?_⟩
      go_simp
      refine hK (upd U 28 (U 27)) _ _ ?_ ?_
      · rw [HA.out]; kernel_rfl
      · exact ⟨fb, fk, fs, oR, oB, f0, f1, f2, (fun _ => g2), f4, f5, f6, f7, f8, f9, f10⟩
    refine StepsU.cond ?_ ?_
    · intro L U wr hF hlk haf A K hA hK
      have HA : Hid (A = putAll _ _ U) := hA
      clear hA
      simp [Aft, Region.binds] at haf
      obtain ⟨fb, fk, fs, oR, oB, f0, f1, f2, f3, f4, f5, f6, f7, f8, f9, f10⟩ := hF
      have gg := f3 (by simp [haf])
      have ee := rd HA.out 28 (by kernel_rfl) gg
      refine ⟨?_⟩
      rw [if_pos (by simp [Region.wanted, yielded, ee])]
      refine Gate.out ?_
      clear gg ee
      have e3 : A.tmps[3]? = some (.pointer (some ⟨w3.heap.size, 0, none⟩)) := by rw [HA.out]; kernel_rfl
      have c0 := Blk.cell oR 0
      have c1 := Blk.cell oR 1
      have c2 := Blk.cell oR 2
      have c3 := Blk.cell oR 3
      have c4 := Blk.cell oR 4
      simp at c0
      simp at c1
      simp at c2
      simp at c3
      simp at c4
      refine ⟨?_⟩
      go_simp
      refine hK (upd U 29 (.agg #[.slice pR qR rR, .bool xR, .slice aR nR cR, .bool yR, .slice dR lR fR])) _ _ ?_ ?_
      · rw [HA.out]; kernel_rfl
      · exact ⟨fb, fk, fs, oR, oB, f0, f1, f2, f3, (fun _ => rfl), f5, f6, f7, f8, f9, f10⟩
    refine StepsU.cond ?_ ?_
    · intro L U wr hF hlk haf A K hA hK
      have HA : Hid (A = putAll _ _ U) := hA
      clear hA
      simp [Aft, Region.binds] at haf
      obtain ⟨fb, fk, fs, oR, oB, f0, f1, f2, f3, f4, f5, f6, f7, f8, f9, f10⟩ := hF
      have gg := f3 (by simp [haf])
      have ee := rd HA.out 28 (by kernel_rfl) gg
      refine ⟨?_⟩
      rw [if_pos (by simp [Region.wanted, yielded, ee])]
      refine Gate.out ?_
      clear gg ee
      have g4 := f4 (by simp [haf])
      have e29 := rd HA.out 29 (by kernel_rfl) g4
      refine ⟨?_⟩
      go_simp
      refine (plain_h _ ps m0 _ ⟨_, _, _, _, _, _, _, _, _, _, _, rfl, hR.below fk.b, hRm.below fk.b⟩).mono ?_
      rintro e w1 ⟨v, rfl, hr, hb⟩
      go_simp
      refine hK (upd U 30 v) _ _ ?_ ?_
      · rw [HA.out]; kernel_rfl
      · exact ⟨(fb.step hb (Nat.le_refl _)), (fk.trans (KeepB.below hb)), (Nat.le_trans fs hb.size), (oR.stay hb), (oB.stay hb), (mvB mb_is (KeepB.below hb) f0), (mvB mb_is (KeepB.below hb) f1), (mvB mb_is (KeepB.below hb) f2), (mvB mb_is (KeepB.below hb) f3), (mvB mb_is (KeepB.below hb) f4), (fun _ => hr), (mvB mb_is (KeepB.below hb) f6), (mvB mb_pln (KeepB.below hb) f7), (mvB mb_is (KeepB.below hb) f8), (mvB mb_is (KeepB.below hb) f9), (mvB mb_is (KeepB.below hb) f10)⟩
    refine StepsU.cond ?_ ?_
    · intro L U wr hF hlk haf A K hA hK
      have HA : Hid (A = putAll _ _ U) := hA
      clear hA
      simp [Aft, Region.binds] at haf
      obtain ⟨fb, fk, fs, oR, oB, f0, f1, f2, f3, f4, f5, f6, f7, f8, f9, f10⟩ := hF
      have gg := f3 (by simp [haf])
      have ee := rd HA.out 28 (by kernel_rfl) gg
      refine ⟨?_⟩
      rw [if_pos (by simp [Region.wanted, yielded, ee])]
      refine Gate.out ?_
      clear gg ee
      have e5 : A.tmps[5]? = some (.pointer (some ⟨w4.heap.size, 0, none⟩)) := by rw [HA.out]; kernel_rfl
      have c0 := Blk.cell oB 0
      have c1 := Blk.cell oB 1
      have c2 := Blk.cell oB 2
      simp at c0
      simp at c1
      simp at c2
      refine ⟨?_⟩
      go_simp
      refine hK (upd U 31 (.agg #[.slice pB qB rB, .bool xB, .slice aB nB cB])) _ _ ?_ ?_
      · rw [HA.out]; kernel_rfl
      · exact ⟨fb, fk, fs, oR, oB, f0, f1, f2, f3, f4, f5, (fun _ => rfl), f7, f8, f9, f10⟩
    refine StepsU.cond ?_ ?_
    · intro L U wr hF hlk haf A K hA hK
      have HA : Hid (A = putAll _ _ U) := hA
      clear hA
      simp [Aft, Region.binds] at haf
      obtain ⟨fb, fk, fs, oR, oB, f0, f1, f2, f3, f4, f5, f6, f7, f8, f9, f10⟩ := hF
      have gg := f3 (by simp [haf])
      have ee := rd HA.out 28 (by kernel_rfl) gg
      refine ⟨?_⟩
      rw [if_pos (by simp [Region.wanted, yielded, ee])]
      refine Gate.out ?_
      clear gg ee
      have g6 := f6 (by simp [haf])
      have e31 := rd HA.out 31 (by kernel_rfl) g6
      refine ⟨?_⟩
      go_simp
      refine (rplain_any _ ps m0 _ (hB.below fk.b).val).mono ?_
      rintro e w1 ⟨v, rfl, hr, hb⟩
      go_simp
      refine hK (upd U 32 v) _ _ ?_ ?_
      · rw [HA.out]; kernel_rfl
      · exact ⟨(fb.step hb (Nat.le_refl _)), (fk.trans (KeepB.below hb)), (Nat.le_trans fs hb.size), (oR.stay hb), (oB.stay hb), (mvB mb_is (KeepB.below hb) f0), (mvB mb_is (KeepB.below hb) f1), (mvB mb_is (KeepB.below hb) f2), (mvB mb_is (KeepB.below hb) f3), (mvB mb_is (KeepB.below hb) f4), (mvB mb_pln (KeepB.below hb) f5), (mvB mb_is (KeepB.below hb) f6), (fun _ => hr), (mvB mb_is (KeepB.below hb) f8), (mvB mb_is (KeepB.below hb) f9), (mvB mb_is (KeepB.below hb) f10)⟩
    refine StepsU.cond ?_ ?_
    · intro L U wr hF hlk haf A K hA hK
      have HA : Hid (A = putAll _ _ U) := hA
      clear hA
      simp [Aft, Region.binds] at haf
      obtain ⟨fb, fk, fs, oR, oB, f0, f1, f2, f3, f4, f5, f6, f7, f8, f9, f10⟩ := hF
      have gg := f3 (by simp [haf])
      have ee := rd HA.out 28 (by kernel_rfl) gg
      refine ⟨?_⟩
      rw [if_pos (by simp [Region.wanted, yielded, ee])]
      refine Gate.out ?_
      clear gg ee
      have g5 := f5 (by simp [haf])
      have e30 := rd HA.out 30 (by kernel_rfl) rfl
      have g7 := f7 (by simp [haf])
      have e32 := rd HA.out 32 (by kernel_rfl) rfl
      refine ⟨?_⟩
      go_simp
      refine (sameRow_h _ _ ps m0 _ g5 g7 HF.out).mono ?_
      rintro e w1 ⟨rfl, hb⟩
      go_simp
      refine hK (upd U 33 (.bool true)) _ _ ?_ ?_
      · rw [HA.out]; kernel_rfl
      · exact ⟨(fb.step hb (Nat.le_refl _)), (fk.trans (KeepB.below hb)), (Nat.le_trans fs hb.size), (oR.stay hb), (oB.stay hb), (mvB mb_is (KeepB.below hb) f0), (mvB mb_is (KeepB.below hb) f1), (mvB mb_is (KeepB.below hb) f2), (mvB mb_is (KeepB.below hb) f3), (mvB mb_is (KeepB.below hb) f4), (mvB mb_pln (KeepB.below hb) f5), (mvB mb_is (KeepB.below hb) f6), (mvB mb_pln (KeepB.below hb) f7), (fun _ => rfl), (mvB mb_is (KeepB.below hb) f9), (mvB mb_is (KeepB.below hb) f10)⟩
    refine StepsU.cond ?_ ?_
    · intro L U wr hF hlk haf A K hA hK
      have HA : Hid (A = putAll _ _ U) := hA
      clear hA
      simp [Aft, Region.binds] at haf
      obtain ⟨fb, fk, fs, oR, oB, f0, f1, f2, f3, f4, f5, f6, f7, f8, f9, f10⟩ := hF
      have gg := f3 (by simp [haf])
      have ee := rd HA.out 28 (by kernel_rfl) gg
      refine ⟨?_⟩
      rw [if_pos (by simp [Region.wanted, yielded, ee])]
      refine Gate.out ?_
      clear gg ee
      have g8 := f8 (by simp [haf])
      have e33 := rd HA.out 33 (by kernel_rfl) g8
      refine ⟨?_⟩
      go_simp
      refine hK (upd U 34 (.bool false)) _ _ ?_ ?_
      · rw [HA.out]; kernel_rfl
      · exact ⟨fb, fk, fs, oR, oB, f0, f1, f2, f3, f4, f5, f6, f7, f8, (fun _ => rfl), f10⟩
    refine StepsU.run rfl ?_ StepsU.nil
    · intro L U wr hF hlk haf A K hA hK
      have HA : Hid (A = putAll _ _ U) := hA
      clear hA
      simp [Aft, Region.binds] at haf
      obtain ⟨fb, fk, fs, oR, oB, f0, f1, f2, f3, f4, f5, f6, f7, f8, f9, f10⟩ := hF
      have g3 := f3 (by simp [haf])
      have g9 := f9 (by simp [haf])
      have e28 := rd HA.out 28 (by kernel_rfl) g3
      have e34 := rd HA.out 34 (by kernel_rfl) g9
      refine ⟨?_⟩
      go_simp
      refine hK (upd U 35 (.bool false)) _ _ ?_ ?_
      · rw [HA.out]; kernel_rfl
      · exact ⟨fb, fk, fs, oR, oB, f0, f1, f2, f3, f4, f5, f6, f7, f8, f9, (fun _ => rfl)⟩
  clear hbw oR oB
  intro L U5 V5 hall hF
  obtain ⟨hbw, fk, fs, oR, oB, f0, f1, f2, f3, f4, f5, f6, f7, f8, f9, f10⟩ := hF
  have g0 := f0 (hall 0 (by decide))
  have g1 := f1 (hall 1 (by decide))
  have g2 := f2 (hall 2 (by decide))
  have g3 := f3 (hall 3 (by decide))
  have g4 := f4 (hall 4 (by decide))
  have g5 := f5 (hall 5 (by decide))
  have g6 := f6 (hall 6 (by decide))
  have g7 := f7 (hall 7 (by decide))
  have g8 := f8 (hall 8 (by decide))
  have g9 := f9 (hall 9 (by decide))
  have g10 := f10 (hall 10 (by decide))
  clear hall f0 f1 f2 f3 f4 f5 f6 f7 f8 f9 f10
  replace hR := hR.below fk.b
  replace hRm := hRm.below fk.b
  replace hB := hB.below fk.b
  replace ltR := oR.lt
  replace ltB := oB.lt
  try clear g0
  try clear g1
  try clear g2
  try clear g3
  try clear g4
  try clear g5
  try clear g6
  try clear g7
  try clear g8
  try clear g9
  clear hbW
  simp only [setM_some, setM_none, setM_nil]
  clear fk fs
  have e35 : U5 35 = _ := g10
  rw [e35]
  clear g10 e35
  by_cases hc : co = 0
  · subst hc
    clear HEZ
    obtain ⟨Rc0, Rc1, Rc2, Rc3, Rc4⟩ := oR.five
    obtain ⟨Rk0, Rk1, Rk2, Rk3, Rk4⟩ := oR.frozen5
    go_wp2_with fail
    refine (lnot_any _ ps m0 _ ⟨_, _, _, _, _, _, _, _, _, _, _, rfl, hR, hRm⟩).mono ?_
    rintro e w6 ⟨vN, kN, rfl, hN, hb⟩
    clear Rc0 Rc1 Rc2 Rc3 Rc4 Rk0 Rk1 Rk2 Rk3 Rk4
    replace oR := oR.stay hb
    replace ltR := oR.lt
    replace oB := oB.stay hb
    replace ltB := oB.lt
    replace hR := hR.below hb
    replace hRm := hRm.below hb
    replace hB := hB.below hb
    replace hbw := hbw.step hb (Nat.le_refl _)
    clear hb
    obtain ⟨pN, qN, rN, xN, aN, nN, cN, yN, dN, lN, fN, hvN⟩ := RRes.shape hN
    subst hvN
    have hn := below_new w6 (.cells #[.slice pN qN rN, .bool xN, .slice aN nN cN, .bool yN, .slice dN lN fN] 82 (0, 0))
    have oN := Blk.new w6 82 #[.slice pN qN rN, .bool xN, .slice aN nN cN, .bool yN, .slice dN lN fN]
    have neRN : w3.heap.size ≠ w6.heap.size := by have := ltR; (try simp at this); omega
    have neBN : w4.heap.size ≠ w6.heap.size := by have := ltB; (try simp at this); omega
    have lwN : w.heap.size ≤ w6.heap.size := by have := hbw.size; (try simp at this); omega
    replace oR := oR.stay hn
    replace ltR := oR.lt
    replace oB := oB.stay hn
    replace ltB := oB.lt
    replace hR := hR.below hn
    replace hRm := hRm.below hn
    replace hB := hB.below hn
    replace hN := hN.below hn
    replace hbw := hbw.step hn (Nat.le_refl _)
    clear hn
    have ltN := oN.lt
    obtain ⟨Bc0, Bc1, Bc2⟩ := oB.three
    obtain ⟨Bk0, Bk1, Bk2⟩ := oB.frozen3
    go_wp2_with fail
    refine (rnot_any _ ps m0 _ hB.val).mono ?_
    rintro e w7 ⟨vM, kM, rfl, hM, hb⟩
    clear Bc0 Bc1 Bc2 Bk0 Bk1 Bk2
    replace oR := oR.stay hb
    replace ltR := oR.lt
    replace oB := oB.stay hb
    replace ltB := oB.lt
    replace oN := oN.stay hb
    replace ltN := oN.lt
    replace hR := hR.below hb
    replace hRm := hRm.below hb
    replace hB := hB.below hb
    replace hN := hN.below hb
    replace hbw := hbw.step hb (Nat.le_refl _)
    clear hb
    obtain ⟨pM, qM, rM, xM, aM, nM, cM, hvM⟩ := QRes.shape hM
    subst hvM
    have hn := below_new w7 (.cells #[.slice pM qM rM, .bool xM, .slice aM nM cM] 86 (0, 0))
    have oM := Blk.new w7 86 #[.slice pM qM rM, .bool xM, .slice aM nM cM]
    have neRM : w3.heap.size ≠ w7.heap.size := by have := ltR; (try simp at this); omega
    have neBM : w4.heap.size ≠ w7.heap.size := by have := ltB; (try simp at this); omega
    have neNM : w6.heap.size ≠ w7.heap.size := by have := ltN; (try simp at this); omega
    have lwM : w.heap.size ≤ w7.heap.size := by have := hbw.size; (try simp at this); omega
    replace oR := oR.stay hn
    replace ltR := oR.lt
    replace oB := oB.stay hn
    replace ltB := oB.lt
    replace oN := oN.stay hn
    replace ltN := oN.lt
    replace hR := hR.below hn
    replace hRm := hRm.below hn
    replace hB := hB.below hn
    replace hN := hN.below hn
    replace hM := hM.below hn
    replace hbw := hbw.step hn (Nat.le_refl _)
    clear hn
    have ltM := oM.lt
    obtain ⟨us, j0, hNr, hMr, hcc, hfu⟩ := both_not hN hM
    have HFU : Hid (Fine us) := hfu
    subst hcc
    clear hN hM hfu
    go_wp2
    have HTG : Hid (Fine (tgP ps)) := tg_fine HF.out
    generalize (w7.alloc (.cells #[.slice pM qM rM, .bool xM, .slice aM nM cM] 86 (0, 0))) = W7 at hbw oR oB oN oM ltR ltB ltN ltM hR hRm hB hNr hMr ⊢
    have hbW := hbw
    refine wp_region_M (by kernel_rfl) [2, 53, 54, 55, 56, 57, 58, 59, 60, 61, 62, 63, 64, 65, 66, 67, 68, 69, 70, 71] [none, none, some 2, none, none, none, none, none, none, none, none, none, none, none, none, none, none, none, none, none, none, none, none, none, none, none, none, none, none, none, none, none, none, none, none, none, none, none, none, none, none, none, none, none, none, none, none, none, none, none, none, none, none, some 53, some 54, some 55, some 56, some 57, some 58, some 59, some 60, some 61, some 62, some 63, some 64, some 65, some 66, some 67, some 68, some 69, some 70, some 71] (fun U => by kernel_rfl) (fun L U wr => Below w.heap.size w wr ∧ KeepB W7 wr ∧ W7.heap.size ≤ wr.heap.size ∧ Blk 82 wr (w3.heap.size) #[.slice pR qR rR, .bool xR, .slice aR nR cR, .bool yR, .slice dR lR fR] ∧ Blk 86 wr (w4.heap.size) #[.slice pB qB rB, .bool xB, .slice aB nB cB] ∧ Blk 82 wr (w6.heap.size) #[.slice pN qN rN, .bool xN, .slice aN nN cN, .bool yN, .slice dN lN fN] ∧ Blk 86 wr (w7.heap.size) #[.slice pM qM rM, .bool xM, .slice aM nM cM] ∧ (L 0 = true → IS (.int .i64 kN) (U 53) wr) ∧ (L 1 = true → IS (.int .i64 kN) (U 54) wr) ∧ (L 2 = true → IS (.bool true) (U 55) wr) ∧ (L 3 = true → IS (.bool true) (U 56) wr) ∧ (L 4 = true → IS (.agg #[.slice pN qN rN, .bool xN, .slice aN nN cN, .bool yN, .slice dN lN fN]) (U 57) wr) ∧ (L 5 = true → PLN us j0 (U 58) wr) ∧ (L 6 = true → IS (.agg #[.slice pM qM rM, .bool xM, .slice aM nM cM]) (U 59) wr) ∧ (L 7 = true → PLN us j0 (U 60) wr) ∧ (L 8 = true → IS (.bool true) (U 61) wr) ∧ (L 9 = true → IS (.bool true) (U 62) wr) ∧ (L 10 = true → IS (.bool true) (U 63) wr) ∧ (L 11 = true → IS (.agg #[.slice pR qR rR, .bool xR, .slice aR nR cR, .bool yR, .slice dR lR fR]) (U 64) wr) ∧ (L 12 = true → ROW (tgP ps) (tgM ps m0) (U 65) wr) ∧ (L 13 = true → PLN (tgP ps) (tgM ps m0) (U 66) wr) ∧ (L 14 = true → IS (.agg #[.slice pB qB rB, .bool xB, .slice aB nB cB]) (U 67) wr) ∧ (L 15 = true → RTM (tgP ps) (tgM ps m0) (U 68) wr) ∧ (L 16 = true → PLN (tgP ps) (tgM ps m0) (U 69) wr) ∧ (L 17 = true → IS (.bool true) (U 70) wr) ∧ (L 18 = true → IS (.bool true) (U 71) wr) ∧ (L 19 = true → IS (.bool true) (U 2) wr)) (by kernel_rfl) ?_ ?_ ?_
    · exact fun U => ⟨hbw.drew, KeepB.below (Below.refl _ _).drew, Nat.le_refl _, oR.drew, oB.drew, oN.drew, oM.drew, (fun h => by cases h), (fun h => by cases h), (fun h => by cases h), (fun h => by cases h), (fun h => by cases h), (fun h => by cases h), (fun h => by cases h), (fun h => by cases h), (fun h => by cases h), (fun h => by cases h), (fun h => by cases h), (fun h => by cases h), (fun h => by cases h), (fun h => by cases h), (fun h => by cases h), (fun h => by cases h), (fun h => by cases h), (fun h => by cases h), (fun h => by cases h), (fun h => by cases h)⟩
    · refine StepsU.run rfl ?_ ?_
      · intro L U wr hF hlk haf A K hA hK
        have HA : Hid (A = putAll _ _ U) := hA
        clear hA
        simp [Aft, Region.binds] at haf
        obtain ⟨fb, fk, fs, oR, oB, oN, oM, f0, f1, f2, f3, f4, f5, f6, f7, f8, f9, f10, f11, f12, f13, f14, f15, f16, f17, f18, f19⟩ := hF
        have e8 : A.tmps[8]? = some (.int .i64 kN) := by rw [HA.out]; kernel_rfl
        refine ⟨?_⟩
        go_simp
        refine hK (upd U 53 (.int .i64 kN)) _ _ ?_ ?_
        · rw [HA.out]; kernel_rfl
        · exact ⟨fb, fk, fs, oR, oB, oN, oM, (fun _ => rfl), f1, f2, f3, f4, f5, f6, f7, f8, f9, f10, f11, f12, f13, f14, f15, f16, f17, f18, f19⟩
      refine StepsU.run rfl ?_ ?_
      · intro L U wr hF hlk haf A K hA hK
        have HA : Hid (A = putAll _ _ U) := hA
        clear hA
        simp [Aft, Region.binds] at haf
        obtain ⟨fb, fk, fs, oR, oB, oN, oM, f0, f1, f2, f3, f4, f5, f6, f7, f8, f9, f10, f11, f12, f13, f14, f15, f16, f17, f18, f19⟩ := hF
        have e10 : A.tmps[10]? = some (.int .i64 kN) := by rw [HA.out]; kernel_rfl
        refine ⟨?_⟩
        go_simp
        refine hK (upd U 54 (.int .i64 kN)) _ _ ?_ ?_
        · rw [HA.out]; kernel_rfl
        · exact ⟨fb, fk, fs, oR, oB, oN, oM, f0, (fun _ => rfl), f2, f3, f4, f5, f6, f7, f8, f9, f10, f11, f12, f13, f14, f15, f16, f17, f18, f19⟩
      refine StepsU.run rfl ?_ ?_
      · intro L U wr hF hlk haf A K hA hK
        have HA : Hid (A = putAll _ _ U) := hA
        clear hA
        simp [Aft, Region.binds] at haf
        obtain ⟨fb, fk, fs, oR, oB, oN, oM, f0, f1, f2, f3, f4, f5, f6, f7, f8, f9, f10, f11, f12, f13, f14, f15, f16, f17, f18, f19⟩ := hF
        have g0 := f0 (by simp [haf])
        have g1 := f1 (by simp [haf])
        have e53 := rd HA.out 53 (by kernel_rfl) g0
        have e54 := rd HA.out 54 (by kernel_rfl) g1
        refine ⟨?_⟩
        go_simp
        refine hK (upd U 55 (.bool true)) _ _ ?_ ?_
        · rw [HA.out]; kernel_rfl
        · exact ⟨fb, fk, fs, oR, oB, oN, oM, f0, f1, (fun _ => rfl), f3, f4, f5, f6, f7, f8, f9, f10, f11, f12, f13, f14, f15, f16, f17, f18, f19⟩
      refine StepsU.run rfl ?_ ?_
      · intro L U wr hF hlk haf A K hA hK
        have HA : Hid (A = putAll _ _ U) := hA
        clear hA
        simp [Aft, Region.binds] at haf
        obtain ⟨fb, fk, fs, oR, oB, oN, oM, f0, f1, f2, f3, f4, f5, f6, f7, f8, f9, f10, f11, f12, f13, f14, f15, f16, f17, f18, f19⟩ := hF
        have g2 := f2 (by simp [haf])
        have e55 := rd HA.out 55 (by kernel_rfl) rfl
        refine ⟨?_⟩
        go_simp
        refine hK (upd U 56 (U 55)) _ _ ?_ ?_
        · rw [HA.out]; kernel_rfl
        · exact ⟨fb, fk, fs, oR, oB, oN, oM, f0, f1, f2, (fun _ => g2), f4, f5, f6, f7, f8, f9, f10, f11, f12, f13, f14, f15, f16, f17, f18, f19⟩
      refine StepsU.cond ?_ ?_
      · intro L U wr hF hlk haf A K hA hK
        have HA : Hid (A = putAll _ _ U) := hA
        clear hA
        simp [Aft, Region.binds] at haf
        obtain ⟨fb, fk, fs, oR, oB, oN, oM, f0, f1, f2, f3, f4, f5, f6, f7, f8, f9, f10, f11, f12, f13, f14, f15, f16, f17, f18, f19⟩ := hF
        have gg := f3 (by simp [haf])
        have ee := rd HA.out 56 (by kernel_rfl) gg
        refine ⟨?_⟩
        rw [if_pos (by simp [Region.wanted, yielded, ee])]
        refine Gate.out ?_
        clear gg ee
        have e7 : A.tmps[7]? = some (.pointer (some ⟨w6.heap.size, 0, none⟩)) := by rw [HA.out]; kernel_rfl
        have c0 := Blk.cell oN 0
        have c1 := Blk.cell oN 1
        have c2 := Blk.cell oN 2
        have c3 := Blk.cell oN 3
        have c4 := Blk.cell oN 4
        simp at c0
        simp at c1
        simp at c2
        simp at c3
        simp at c4
        refine ⟨?_⟩
        go_simp
        refine hK (upd U 57 (.agg #[.slice pN qN rN, .bool xN, .slice aN nN cN, .bool yN, .slice dN lN fN])) _ _ ?_ ?_
        · rw [HA.out]; kernel_rfl
        · exact ⟨fb, fk, fs, oR, oB, oN, oM, f0, f1, f2, f3, (fun _ => rfl), f5, f6, f7, f8, f9, f10, f11, f12, f13, f14, f15, f16, f17, f18, f19⟩
      refine StepsU.cond ?_ ?_
      · intro L U wr hF hlk haf A K hA hK
        have HA : Hid (A = putAll _ _ U) := hA
        clear hA
        simp [Aft, Region.binds] at haf
        obtain ⟨fb, fk, fs, oR, oB, oN, oM, f0, f1, f2, f3, f4, f5, f6, f7, f8, f9, f10, f11, f12, f13, f14, f15, f16, f17, f18, f19⟩ := hF
        have gg := f3 (by simp [haf])
        have ee := rd HA.out 56 (by kernel_rfl) gg
        refine ⟨?_⟩
        rw [if_pos (by simp [Region.wanted, yielded, ee])]
        refine Gate.out ?_
        clear gg ee
        have g4 := f4 (by simp [haf])
        have e57 := rd HA.out 57 (by kernel_rfl) g4
        refine ⟨?_⟩
        go_simp
        refine (plain_h _ us j0 _ (hNr.below fk.b)).mono ?_
        rintro e w1 ⟨v, rfl, hr, hb⟩
        go_simp
        refine hK (upd U 58 v) _ _ ?_ ?_
        · rw [HA.out]; kernel_rfl
        · exact ⟨(fb.step hb (Nat.le_refl _)), (fk.trans (KeepB.below hb)), (Nat.le_trans fs hb.size), (oR.stay hb), (oB.stay hb), (oN.stay hb), (oM.stay hb), (mvB mb_is (KeepB.below hb) f0), (mvB mb_is (KeepB.below hb) f1), (mvB mb_is (KeepB.below hb) f2), (mvB mb_is (KeepB.below hb) f3), (mvB mb_is (KeepB.below hb) f4), (fun _ => hr), (mvB mb_is (KeepB.below hb) f6), (mvB mb_pln (KeepB.below hb) f7), (mvB mb_is (KeepB.below hb) f8), (mvB mb_is (KeepB.below hb) f9), (mvB mb_is (KeepB.below hb) f10), (mvB mb_is (KeepB.below hb) f11), (mvB mb_row (KeepB.below hb) f12), (mvB mb_pln (KeepB.below hb) f13), (mvB mb_is (KeepB.below hb) f14), (mvB mb_rtm (KeepB.below hb) f15), (mvB mb_pln (KeepB.below hb) f16), (mvB mb_is (KeepB.below hb) f17), (mvB mb_is (KeepB.below hb) f18), (mvB mb_is (KeepB.below hb) f19)⟩
      refine StepsU.cond ?_ ?_
      · intro L U wr hF hlk haf A K hA hK
        have HA : Hid (A = putAll _ _ U) := hA
        clear hA
        simp [Aft, Region.binds] at haf
        obtain ⟨fb, fk, fs, oR, oB, oN, oM, f0, f1, f2, f3, f4, f5, f6, f7, f8, f9, f10, f11, f12, f13, f14, f15, f16, f17, f18, f19⟩ := hF
        have gg := f3 (by simp [haf])
        have ee := rd HA.out 56 (by kernel_rfl) gg
        refine ⟨?_⟩
        rw [if_pos (by simp [Region.wanted, yielded, ee])]
        refine Gate.out ?_
        clear gg ee
        have e9 : A.tmps[9]? = some (.pointer (some ⟨w7.heap.size, 0, none⟩)) := by rw [HA.out]; kernel_rfl
        have c0 := Blk.cell oM 0
        have c1 := Blk.cell oM 1
        have c2 := Blk.cell oM 2
        simp at c0
        simp at c1
        simp at c2
        refine ⟨?_⟩
        go_simp
        refine hK (upd U 59 (.agg #[.slice pM qM rM, .bool xM, .slice aM nM cM])) _ _ ?_ ?_
        · rw [HA.out]; kernel_rfl
        · exact ⟨fb, fk, fs, oR, oB, oN, oM, f0, f1, f2, f3, f4, f5, (fun _ => rfl), f7, f8, f9, f10, f11, f12, f13, f14, f15, f16, f17, f18, f19⟩
      refine StepsU.cond ?_ ?_
      · intro L U wr hF hlk haf A K hA hK
        have HA : Hid (A = putAll _ _ U) := hA
        clear hA
        simp [Aft, Region.binds] at haf
        obtain ⟨fb, fk, fs, oR, oB, oN, oM, f0, f1, f2, f3, f4, f5, f6, f7, f8, f9, f10, f11, f12, f13, f14, f15, f16, f17, f18, f19⟩ := hF
        have gg := f3 (by simp [haf])
        have ee := rd HA.out 56 (by kernel_rfl) gg
        refine ⟨?_⟩
        rw [if_pos (by simp [Region.wanted, yielded, ee])]
        refine Gate.out ?_
        clear gg ee
        have g6 := f6 (by simp [haf])
        have e59 := rd HA.out 59 (by kernel_rfl) g6
        refine ⟨?_⟩
        go_simp
        refine (rplain_any _ us j0 _ (hMr.below fk.b)).mono ?_
        rintro e w1 ⟨v, rfl, hr, hb⟩
        go_simp
        refine hK (upd U 60 v) _ _ ?_ ?_
        · rw [HA.out]; kernel_rfl
        · exact ⟨(fb.step hb (Nat.le_refl _)), (fk.trans (KeepB.below hb)), (Nat.le_trans fs hb.size), (oR.stay hb), (oB.stay hb), (oN.stay hb), (oM.stay hb), (mvB mb_is (KeepB.below hb) f0), (mvB mb_is (KeepB.below hb) f1), (mvB mb_is (KeepB.below hb) f2), (mvB mb_is (KeepB.below hb) f3), (mvB mb_is (KeepB.below hb) f4), (mvB mb_pln (KeepB.below hb) f5), (mvB mb_is (KeepB.below hb) f6), (fun _ => hr), (mvB mb_is (KeepB.below hb) f8), (mvB mb_is (KeepB.below hb) f9), (mvB mb_is (KeepB.below hb) f10), (mvB mb_is (KeepB.below hb) f11), (mvB mb_row (KeepB.below hb) f12), (mvB mb_pln (KeepB.below hb) f13), (mvB mb_is (KeepB.below hb) f14), (mvB mb_rtm (KeepB.below hb) f15), (mvB mb_pln (KeepB.below hb) f16), (mvB mb_is (KeepB.below hb) f17), (mvB mb_is (KeepB.below hb) f18), (mvB mb_is (KeepB.below hb) f19)⟩
      refine StepsU.cond ?_ ?_
      · intro L U wr hF hlk haf A K hA hK
        have HA : Hid (A = putAll _ _ U) := hA
        clear hA
        simp [Aft, Region.binds] at haf
        obtain ⟨fb, fk, fs, oR, oB, oN, oM, f0, f1, f2, f3, f4, f5, f6, f7, f8, f9, f10, f11, f12, f13, f14, f15, f16, f17, f18, f19⟩ := hF
        have gg := f3 (by simp [haf])
        have ee := rd HA.out 56 (by kernel_rfl) gg
        refine ⟨?_⟩
        rw [if_pos (by simp [Region.wanted, yielded, ee])]
        refine Gate.out ?_
        clear gg ee
        have g5 := f5 (by simp [haf])
        have e58 := rd HA.out 58 (by kernel_rfl) rfl
        have g7 := f7 (by simp [haf])
        have e60 := rd HA.out 60 (by kernel_rfl) rfl
        refine ⟨?_⟩
        go_simp
        refine (sameRow_h _ _ us j0 _ g5 g7 HFU.out).mono ?_
        rintro e w1 ⟨rfl, hb⟩
        go_simp
        refine hK (upd U 61 (.bool true)) _ _ ?_ ?_
        · rw [HA.out]; kernel_rfl
        · exact ⟨(fb.step hb (Nat.le_refl _)), (fk.trans (KeepB.below hb)), (Nat.le_trans fs hb.size), (oR.stay hb), (oB.stay hb), (oN.stay hb), (oM.stay hb), (mvB mb_is (KeepB.below hb) f0), (mvB mb_is (KeepB.below hb) f1), (mvB mb_is (KeepB.below hb) f2), (mvB mb_is (KeepB.below hb) f3), (mvB mb_is (KeepB.below hb) f4), (mvB mb_pln (KeepB.below hb) f5), (mvB mb_is (KeepB.below hb) f6), (mvB mb_pln (KeepB.below hb) f7), (fun _ => rfl), (mvB mb_is (KeepB.below hb) f9), (mvB mb_is (KeepB.below hb) f10), (mvB mb_is (KeepB.below hb) f11), (mvB mb_row (KeepB.below hb) f12), (mvB mb_pln (KeepB.below hb) f13), (mvB mb_is (KeepB.below hb) f14), (mvB mb_rtm (KeepB.below hb) f15), (mvB mb_pln (KeepB.below hb) f16), (mvB mb_is (KeepB.below hb) f17), (mvB mb_is (KeepB.below hb) f18), (mvB mb_is (KeepB.below hb) f19)⟩
      refine StepsU.run rfl ?_ ?_
      · intro L U wr hF hlk haf A K hA hK
        have HA : Hid (A = putAll _ _ U) := hA
        clear hA
        simp [Aft, Region.binds] at haf
        obtain ⟨fb, fk, fs, oR, oB, oN, oM, f0, f1, f2, f3, f4, f5, f6, f7, f8, f9, f10, f11, f12, f13, f14, f15, f16, f17, f18, f19⟩ := hF
        have g3 := f3 (by simp [haf])
        have g8 := f8 (by simp [haf])
        have e56 := rd HA.out 56 (by kernel_rfl) g3
        have e61 := rd HA.out 61 (by kernel_rfl) g8
        refine ⟨?_⟩
        go_simp
        refine hK (upd U 62 (.bool true)) _ _ ?_ ?_
        · rw [HA.out]; kernel_rfl
        · exact ⟨fb, fk, fs, oR, oB, oN, oM, f0, f1, f2, f3, f4, f5, f6, f7, f8, (fun _ => rfl), f10, f11, f12, f13, f14, f15, f16, f17, f18, f19⟩
      refine StepsU.run rfl ?_ ?_
      · intro L U wr hF hlk haf A K hA hK
        have HA : Hid (A = putAll _ _ U) := hA
        clear hA
        simp [Aft, Region.binds] at haf
        obtain ⟨fb, fk, fs, oR, oB, oN, oM, f0, f1, f2, f3, f4, f5, f6, f7, f8, f9, f10, f11, f12, f13, f14, f15, f16, f17, f18, f19⟩ := hF
        have g9 := f9 (by simp [haf])
        have e62 := rd HA.out 62 (by kernel_rfl) rfl
        refine ⟨?_⟩
        go_simp
        refine hK (upd U 63 (U 62)) _ _ ?_ ?_
        · rw [HA.out]; kernel_rfl
        · exact ⟨fb, fk, fs, oR, oB, oN, oM, f0, f1, f2, f3, f4, f5, f6, f7, f8, f9, (fun _ => g9), f11, f12, f13, f14, f15, f16, f17, f18, f19⟩
      refine StepsU.cond ?_ ?_
      · intro L U wr hF hlk haf A K hA hK
        have HA : Hid (A = putAll _ _ U) := hA
        clear hA
        simp [Aft, Region.binds] at haf
        obtain ⟨fb, fk, fs, oR, oB, oN, oM, f0, f1, f2, f3, f4, f5, f6, f7, f8, f9, f10, f11, f12, f13, f14, f15, f16, f17, f18, f19⟩ := hF
        have gg := f10 (by simp [haf])
        have ee := rd HA.out 63 (by kernel_rfl) gg
        refine ⟨?_⟩
        rw [if_pos (by simp [Region.wanted, yielded, ee])]
        refine Gate.out ?_
        clear gg ee
        have e3 : A.tmps[3]? = some (.pointer (some ⟨w3.heap.size, 0, none⟩)) := by rw [HA.out]; kernel_rfl
        have c0 := Blk.cell oR 0
        have c1 := Blk.cell oR 1
        have c2 := Blk.cell oR 2
        have c3 := Blk.cell oR 3
        have c4 := Blk.cell oR 4
        simp at c0
        simp at c1
        simp at c2
        simp at c3
        simp at c4
        refine ⟨?_⟩
        go_simp
        refine hK (upd U 64 (.agg #[.slice pR qR rR, .bool xR, .slice aR nR cR, .bool yR, .slice dR lR fR])) _ _ ?_ ?_
        · rw [HA.out]; kernel_rfl
        · exact ⟨fb, fk, fs, oR, oB, oN, oM, f0, f1, f2, f3, f4, f5, f6, f7, f8, f9, f10, (fun _ => rfl), f12, f13, f14, f15, f16, f17, f18, f19⟩
      refine StepsU.cond ?_ ?_
      · intro L U wr hF hlk haf A K hA hK
        have HA : Hid (A = putAll _ _ U) := hA
        clear hA
        simp [Aft, Region.binds] at haf
        obtain ⟨fb, fk, fs, oR, oB, oN, oM, f0, f1, f2, f3, f4, f5, f6, f7, f8, f9, f10, f11, f12, f13, f14, f15, f16, f17, f18, f19⟩ := hF
        have gg := f10 (by simp [haf])
        have ee := rd HA.out 63 (by kernel_rfl) gg
        refine ⟨?_⟩
        rw [if_pos (by simp [Region.wanted, yielded, ee])]
        refine Gate.out ?_
        clear gg ee
        have g11 := f11 (by simp [haf])
        have e64 := rd HA.out 64 (by kernel_rfl) g11
        refine ⟨?_⟩
        go_simp
        refine (tight_any _ ps m0 _ ⟨_, _, _, _, _, _, _, _, _, _, _, rfl, hR.below fk.b, hRm.below fk.b⟩).mono ?_
        rintro e w1 ⟨v, rfl, hr, hb⟩
        go_simp
        refine hK (upd U 65 v) _ _ ?_ ?_
        · rw [HA.out]; kernel_rfl
        · exact ⟨(fb.step hb (Nat.le_refl _)), (fk.trans (KeepB.below hb)), (Nat.le_trans fs hb.size), (oR.stay hb), (oB.stay hb), (oN.stay hb), (oM.stay hb), (mvB mb_is (KeepB.below hb) f0), (mvB mb_is (KeepB.below hb) f1), (mvB mb_is (KeepB.below hb) f2), (mvB mb_is (KeepB.below hb) f3), (mvB mb_is (KeepB.below hb) f4), (mvB mb_pln (KeepB.below hb) f5), (mvB mb_is (KeepB.below hb) f6), (mvB mb_pln (KeepB.below hb) f7), (mvB mb_is (KeepB.below hb) f8), (mvB mb_is (KeepB.below hb) f9), (mvB mb_is (KeepB.below hb) f10), (mvB mb_is (KeepB.below hb) f11), (fun _ => hr), (mvB mb_pln (KeepB.below hb) f13), (mvB mb_is (KeepB.below hb) f14), (mvB mb_rtm (KeepB.below hb) f15), (mvB mb_pln (KeepB.below hb) f16), (mvB mb_is (KeepB.below hb) f17), (mvB mb_is (KeepB.below hb) f18), (mvB mb_is (KeepB.below hb) f19)⟩
      refine StepsU.cond ?_ ?_
      · intro L U wr hF hlk haf A K hA hK
        have HA : Hid (A = putAll _ _ U) := hA
        clear hA
        simp [Aft, Region.binds] at haf
        obtain ⟨fb, fk, fs, oR, oB, oN, oM, f0, f1, f2, f3, f4, f5, f6, f7, f8, f9, f10, f11, f12, f13, f14, f15, f16, f17, f18, f19⟩ := hF
        have gg := f10 (by simp [haf])
        have ee := rd HA.out 63 (by kernel_rfl) gg
        refine ⟨?_⟩
        rw [if_pos (by simp [Region.wanted, yielded, ee])]
        refine Gate.out ?_
        clear gg ee
        have g12 := f12 (by simp [haf])
        have e65 := rd HA.out 65 (by kernel_rfl) rfl
        refine ⟨?_⟩
        go_simp
        refine (plain_h _ (tgP ps) (tgM ps m0) _ g12).mono ?_
        rintro e w1 ⟨v, rfl, hr, hb⟩
        go_simp
        refine hK (upd U 66 v) _ _ ?_ ?_
        · rw [HA.out]; kernel_rfl
        · exact ⟨(fb.step hb (Nat.le_refl _)), (fk.trans (KeepB.below hb)), (Nat.le_trans fs hb.size), (oR.stay hb), (oB.stay hb), (oN.stay hb), (oM.stay hb), (mvB mb_is (KeepB.below hb) f0), (mvB mb_is (KeepB.below hb) f1), (mvB mb_is (KeepB.below hb) f2), (mvB mb_is (KeepB.below hb) f3), (mvB mb_is (KeepB.below hb) f4), (mvB mb_pln (KeepB.below hb) f5), (mvB mb_is (KeepB.below hb) f6), (mvB mb_pln (KeepB.below hb) f7), (mvB mb_is (KeepB.below hb) f8), (mvB mb_is (KeepB.below hb) f9), (mvB mb_is (KeepB.below hb) f10), (mvB mb_is (KeepB.below hb) f11), (mvB mb_row (KeepB.below hb) f12), (fun _ => hr), (mvB mb_is (KeepB.below hb) f14), (mvB mb_rtm (KeepB.below hb) f15), (mvB mb_pln (KeepB.below hb) f16), (mvB mb_is (KeepB.below hb) f17), (mvB mb_is (KeepB.below hb) f18), (mvB mb_is (KeepB.below hb) f19)⟩
      refine StepsU.cond ?_ ?_
      · intro L U wr hF hlk haf A K hA hK
        have HA : Hid (A = putAll _ _ U) := hA
        clear hA
        simp [Aft, Region.binds] at haf
        obtain ⟨fb, fk, fs, oR, oB, oN, oM, f0, f1, f2, f3, f4, f5, f6, f7, f8, f9, f10, f11, f12, f13, f14, f15, f16, f17, f18, f19⟩ := hF
        have gg := f10 (by simp [haf])
        have ee := rd HA.out 63 (by kernel_rfl) gg
        refine ⟨?_⟩
        rw [if_pos (by simp [Region.wanted, yielded, ee])]
        refine Gate.out ?_
        clear gg ee
        have e5 : A.tmps[5]? = some (.pointer (some ⟨w4.heap.size, 0, none⟩)) := by rw [HA.out]; kernel_rfl
        have c0 := Blk.cell oB 0
        have c1 := Blk.cell oB 1
        have c2 := Blk.cell oB 2
        simp at c0
        simp at c1
        simp at c2
        refine ⟨?_⟩
        go_simp
        refine hK (upd U 67 (.agg #[.slice pB qB rB, .bool xB, .slice aB nB cB])) _ _ ?_ ?_
        · rw [HA.out]; kernel_rfl
        · exact ⟨fb, fk, fs, oR, oB, oN, oM, f0, f1, f2, f3, f4, f5, f6, f7, f8, f9, f10, f11, f12, f13, (fun _ => rfl), f15, f16, f17, f18, f19⟩
      refine StepsU.cond ?_ ?_
      · intro L U wr hF hlk haf A K hA hK
        have HA : Hid (A = putAll _ _ U) := hA
        clear hA
        simp [Aft, Region.binds] at haf
        obtain ⟨fb, fk, fs, oR, oB, oN, oM, f0, f1, f2, f3, f4, f5, f6, f7, f8, f9, f10, f11, f12, f13, f14, f15, f16, f17, f18, f19⟩ := hF
        have gg := f10 (by simp [haf])
        have ee := rd HA.out 63 (by kernel_rfl) gg
        refine ⟨?_⟩
        rw [if_pos (by simp [Region.wanted, yielded, ee])]
        refine Gate.out ?_
        clear gg ee
        have g14 := f14 (by simp [haf])
        have e67 := rd HA.out 67 (by kernel_rfl) g14
        refine ⟨?_⟩
        go_simp
        refine (rtight_any _ ps m0 _ (hB.below fk.b).val).mono ?_
        rintro e w1 ⟨v, rfl, hr, hb⟩
        go_simp
        refine hK (upd U 68 v) _ _ ?_ ?_
        · rw [HA.out]; kernel_rfl
        · exact ⟨(fb.step hb (Nat.le_refl _)), (fk.trans (KeepB.below hb)), (Nat.le_trans fs hb.size), (oR.stay hb), (oB.stay hb), (oN.stay hb), (oM.stay hb), (mvB mb_is (KeepB.below hb) f0), (mvB mb_is (KeepB.below hb) f1), (mvB mb_is (KeepB.below hb) f2), (mvB mb_is (KeepB.below hb) f3), (mvB mb_is (KeepB.below hb) f4), (mvB mb_pln (KeepB.below hb) f5), (mvB mb_is (KeepB.below hb) f6), (mvB mb_pln (KeepB.below hb) f7), (mvB mb_is (KeepB.below hb) f8), (mvB mb_is (KeepB.below hb) f9), (mvB mb_is (KeepB.below hb) f10), (mvB mb_is (KeepB.below hb) f11), (mvB mb_row (KeepB.below hb) f12), (mvB mb_pln (KeepB.below hb) f13), (mvB mb_is (KeepB.below hb) f14), (fun _ => hr), (mvB mb_pln (KeepB.below hb) f16), (mvB mb_is (KeepB.below hb) f17), (mvB mb_is (KeepB.below hb) f18), (mvB mb_is (KeepB.below hb) f19)⟩
      refine StepsU.cond ?_ ?_
      · intro L U wr hF hlk haf A K hA hK
        have HA : Hid (A = putAll _ _ U) := hA
        clear hA
        simp [Aft, Region.binds] at haf
        obtain ⟨fb, fk, fs, oR, oB, oN, oM, f0, f1, f2, f3, f4, f5, f6, f7, f8, f9, f10, f11, f12, f13, f14, f15, f16, f17, f18, f19⟩ := hF
        have gg := f10 (by simp [haf])
        have ee := rd HA.out 63 (by kernel_rfl) gg
        refine ⟨?_⟩
        rw [if_pos (by simp [Region.wanted, yielded, ee])]
        refine Gate.out ?_
        clear gg ee
        have g15 := f15 (by simp [haf])
        have e68 := rd HA.out 68 (by kernel_rfl) rfl
        refine ⟨?_⟩
        go_simp
        refine (rplain_any _ (tgP ps) (tgM ps m0) _ g15).mono ?_
        rintro e w1 ⟨v, rfl, hr, hb⟩
        go_simp
        refine hK (upd U 69 v) _ _ ?_ ?_
        · rw [HA.out]; kernel_rfl
        · exact ⟨(fb.step hb (Nat.le_refl _)), (fk.trans (KeepB.below hb)), (Nat.le_trans fs hb.size), (oR.stay hb), (oB.stay hb), (oN.stay hb), (oM.stay hb), (mvB mb_is (KeepB.below hb) f0), (mvB mb_is (KeepB.below hb) f1), (mvB mb_is (KeepB.below hb) f2), (mvB mb_is (KeepB.below hb) f3), (mvB mb_is (KeepB.below hb) f4), (mvB mb_pln (KeepB.below hb) f5), (mvB mb_is (KeepB.below hb) f6), (mvB mb_pln (KeepB.below hb) f7), (mvB mb_is (KeepB.below hb) f8), (mvB mb_is (KeepB.below hb) f9), (mvB mb_is (KeepB.below hb) f10), (mvB mb_is (KeepB.below hb) f11), (mvB mb_row (KeepB.below hb) f12), (mvB mb_pln (KeepB.below hb) f13), (mvB mb_is (KeepB.below hb) f14), (mvB mb_rtm (KeepB.below hb) f15), (fun _ => hr), (mvB mb_is (KeepB.below hb) f17), (mvB mb_is (KeepB.below hb) f18), (mvB mb_is (KeepB.below hb) f19)⟩
      refine StepsU.cond ?_ ?_
      · intro L U wr hF hlk haf A K hA hK
        have HA : Hid (A = putAll _ _ U) := hA
        clear hA
        simp [Aft, Region.binds] at haf
        obtain ⟨fb, fk, fs, oR, oB, oN, oM, f0, f1, f2, f3, f4, f5, f6, f7, f8, f9, f10, f11, f12, f13, f14, f15, f16, f17, f18, f19⟩ := hF
        have gg := f10 (by simp [haf])
        have ee := rd HA.out 63 (by kernel_rfl) gg
        refine ⟨?_⟩
        rw [if_pos (by simp [Region.wanted, yielded, ee])]
        refine Gate.out ?_
        clear gg ee
        have g13 := f13 (by simp [haf])
        have e66 := rd HA.out 66 (by kernel_rfl) rfl
        have g16 := f16 (by simp [haf])
        have e69 := rd HA.out 69 (by kernel_rfl) rfl
        refine ⟨?_⟩
        go_simp
        refine (sameRow_h _ _ (tgP ps) (tgM ps m0) _ g13 g16 HTG.out).mono ?_
        rintro e w1 ⟨rfl, hb⟩
        go_simp
        refine hK (upd U 70 (.bool true)) _ _ ?_ ?_
        · rw [HA.out]; kernel_rfl
        · exact ⟨(fb.step hb (Nat.le_refl _)), (fk.trans (KeepB.below hb)), (Nat.le_trans fs hb.size), (oR.stay hb), (oB.stay hb), (oN.stay hb), (oM.stay hb), (mvB mb_is (KeepB.below hb) f0), (mvB mb_is (KeepB.below hb) f1), (mvB mb_is (KeepB.below hb) f2), (mvB mb_is (KeepB.below hb) f3), (mvB mb_is (KeepB.below hb) f4), (mvB mb_pln (KeepB.below hb) f5), (mvB mb_is (KeepB.below hb) f6), (mvB mb_pln (KeepB.below hb) f7), (mvB mb_is (KeepB.below hb) f8), (mvB mb_is (KeepB.below hb) f9), (mvB mb_is (KeepB.below hb) f10), (mvB mb_is (KeepB.below hb) f11), (mvB mb_row (KeepB.below hb) f12), (mvB mb_pln (KeepB.below hb) f13), (mvB mb_is (KeepB.below hb) f14), (mvB mb_rtm (KeepB.below hb) f15), (mvB mb_pln (KeepB.below hb) f16), (fun _ => rfl), (mvB mb_is (KeepB.below hb) f18), (mvB mb_is (KeepB.below hb) f19)⟩
      refine StepsU.run rfl ?_ ?_
      · intro L U wr hF hlk haf A K hA hK
        have HA : Hid (A = putAll _ _ U) := hA
        clear hA
        simp [Aft, Region.binds] at haf
        obtain ⟨fb, fk, fs, oR, oB, oN, oM, f0, f1, f2, f3, f4, f5, f6, f7, f8, f9, f10, f11, f12, f13, f14, f15, f16, f17, f18, f19⟩ := hF
        have g10 := f10 (by simp [haf])
        have g17 := f17 (by simp [haf])
        have e63 := rd HA.out 63 (by kernel_rfl) g10
        have e70 := rd HA.out 70 (by kernel_rfl) g17
        refine ⟨?_⟩
        go_simp
        refine hK (upd U 71 (.bool true)) _ _ ?_ ?_
        · rw [HA.out]; kernel_rfl
        · exact ⟨fb, fk, fs, oR, oB, oN, oM, f0, f1, f2, f3, f4, f5, f6, f7, f8, f9, f10, f11, f12, f13, f14, f15, f16, f17, (fun _ => rfl), f19⟩
      refine StepsU.run rfl ?_ StepsU.nil
      · intro L U wr hF hlk haf A K hA hK
        have HA : Hid (A = putAll _ _ U) := hA
        clear hA
        simp [Aft, Region.binds] at haf
        obtain ⟨fb, fk, fs, oR, oB, oN, oM, f0, f1, f2, f3, f4, f5, f6, f7, f8, f9, f10, f11, f12, f13, f14, f15, f16, f17, f18, f19⟩ := hF
        have g18 := f18 (by simp [haf])
        have e71 := rd HA.out 71 (by kernel_rfl) rfl
        refine ⟨?_⟩
        go_simp
        refine hK (upd U 2 (U 71)) _ _ ?_ ?_
        · rw [HA.out]; kernel_rfl
        · exact ⟨fb, fk, fs, oR, oB, oN, oM, f0, f1, f2, f3, f4, f5, f6, f7, f8, f9, f10, f11, f12, f13, f14, f15, f16, f17, f18, (fun _ => g18)⟩
    clear hbw oR oB oN oM
    intro L U8 V8 hall hF
    obtain ⟨hbw, fk, fs, oR, oB, oN, oM, f0, f1, f2, f3, f4, f5, f6, f7, f8, f9, f10, f11, f12, f13, f14, f15, f16, f17, f18, f19⟩ := hF
    have g0 := f0 (hall 0 (by decide))
    have g1 := f1 (hall 1 (by decide))
    have g2 := f2 (hall 2 (by decide))
    have g3 := f3 (hall 3 (by decide))
    have g4 := f4 (hall 4 (by decide))
    have g5 := f5 (hall 5 (by decide))
    have g6 := f6 (hall 6 (by decide))
    have g7 := f7 (hall 7 (by decide))
    have g8 := f8 (hall 8 (by decide))
    have g9 := f9 (hall 9 (by decide))
    have g10 := f10 (hall 10 (by decide))
    have g11 := f11 (hall 11 (by decide))
    have g12 := f12 (hall 12 (by decide))
    have g13 := f13 (hall 13 (by decide))
    have g14 := f14 (hall 14 (by decide))
    have g15 := f15 (hall 15 (by decide))
    have g16 := f16 (hall 16 (by decide))
    have g17 := f17 (hall 17 (by decide))
    have g18 := f18 (hall 18 (by decide))
    have g19 := f19 (hall 19 (by decide))
    clear hall f0 f1 f2 f3 f4 f5 f6 f7 f8 f9 f10 f11 f12 f13 f14 f15 f16 f17 f18 f19
    replace hR := hR.below fk.b
    replace hRm := hRm.below fk.b
    replace hB := hB.below fk.b
    replace hNr := hNr.below fk.b
    replace hMr := hMr.below fk.b
    replace ltR := oR.lt
    replace ltB := oB.lt
    replace ltN := oN.lt
    replace ltM := oM.lt
    try clear g0
    try clear g1
    try clear g2
    try clear g3
    try clear g4
    try clear g5
    try clear g6
    try clear g7
    try clear g8
    try clear g9
    try clear g10
    try clear g11
    try clear g12
    try clear g13
    try clear g14
    try clear g15
    try clear g16
    try clear g17
    try clear g18
    clear hbW
    simp only [setM_some, setM_none, setM_nil]
    clear fk fs
    have e2 : U8 2 = _ := g19
    try simp only []
    try go_at_K
    repeat (first | go_values | go_skip | go_guarded | go_step | go_upon)
    refine bodyPost_ret (v := .bool true) (by simp [results, Tryz.results6, go_sem, e2]) rfl ?_
    exact ⟨rfl, hbw⟩
  · have hps := HEZ.out hc
    have hc2 : (co != 0) = true := by rw [bne_iff_ne]; exact hc
    clear hc HEZ
    subst hps
    obtain ⟨Rc0, Rc1, Rc2, Rc3, Rc4⟩ := oR.five
    obtain ⟨Rk0, Rk1, Rk2, Rk3, Rk4⟩ := oR.frozen5
    go_wp2_with fail
    refine (plain_any _ [] m0 _ ⟨_, _, _, _, _, _, _, _, _, _, _, rfl, hR, hRm⟩).mono ?_
    rintro e w6 ⟨aP, nP, cP, rfl, hnP, hP, hb⟩
    clear Rc0 Rc1 Rc2 Rc3 Rc4 Rk0 Rk1 Rk2 Rk3 Rk4
    replace oR := oR.stay hb
    replace ltR := oR.lt
    replace oB := oB.stay hb
    replace ltB := oB.lt
    replace hR := hR.below hb
    replace hRm := hRm.below hb
    replace hB := hB.below hb
    replace hbw := hbw.step hb (Nat.le_refl _)
    clear hb
    obtain rfl : 0 = nP := hnP
    have hfd := field_row aP 0 cP (nT m0) w6
    go_wp2
    go_ret
    exact ⟨rfl, hbw⟩

end Go.Proofs.YteefniagebcagaaGreatDoor
