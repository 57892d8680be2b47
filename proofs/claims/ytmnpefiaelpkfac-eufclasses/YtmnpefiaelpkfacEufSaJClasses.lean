/- One call at both graphs: Equal; no statement of the seat is proved here. -/
import Derived.Test.YtmnpefiaelpkfacEufSpJClasses
import Derived.Test.YtmnpefiaelpkfacEufBkJClasses
import Derived.Test.YtmnpefiaelpkfacJoin6Classes
namespace Go.Proofs.Ytmnpefiaelpkfac
open Go.RowKit
set_option linter.unusedVariables false
namespace Euf
theorem five5 {t : TypeId} {w : World} {b : Nat} {p q r s u : Value} (h : Blk t w b #[p, q, r, s, u]) :
    w.cell? ⟨b, 0, none⟩ = some p ∧ w.cell? ⟨b, 1, none⟩ = some q ∧ w.cell? ⟨b, 2, none⟩ = some r ∧ w.cell? ⟨b, 3, none⟩ = some s ∧ w.cell? ⟨b, 4, none⟩ = some u := ⟨h.cell 0, h.cell 1, h.cell 2, h.cell 3, h.cell 4⟩
theorem blk_mv {ty : TypeId} {w w' : World} {b : Nat} {cs : Array Value} (h : Blk ty w b cs) {F : Nat → Prop} (hM : Mv F w w') (hn : ¬ F b) : Blk ty w' b cs := (hM.other b h.lt hn).trans h
/-- Three blocks are laid down. -/
theorem three (w : World) (t1 t2 t3 : TypeId) (c1 c2 c3 : Array Value) : ∃ W0, W0 = ((w.alloc (.cells c1 t1 (0, 0))).alloc (.cells c2 t2 (0, 0))).alloc (.cells c3 t3 (0, 0)) ∧ Blk t1 W0 w.heap.size c1 ∧ Blk t2 W0 (w.heap.size + 1) c2 ∧ Blk t3 W0 (w.heap.size + 1 + 1) c3 ∧ Below w.heap.size w W0 ∧ W0.heap.size = w.heap.size + 3 := by
  refine ⟨_, rfl, ?_, ?_, ?_, by go_grown, by simp⟩
  · exact (Below.heap_alloc _ _ w.heap.size (by simp; omega)).trans ((Below.heap_alloc _ _ w.heap.size (by simp)).trans (heap_alloc_new w _))
  · have k1 := heap_alloc_new (w.alloc (.cells c1 t1 (0, 0))) (.cells c2 t2 (0, 0))
    have s1 : (w.alloc (.cells c1 t1 (0, 0))).heap.size = w.heap.size + 1 := by simp
    rw [s1] at k1
    exact (Below.heap_alloc _ _ (w.heap.size + 1) (by simp)).trans k1
  · have k1 := heap_alloc_new ((w.alloc (.cells c1 t1 (0, 0))).alloc (.cells c2 t2 (0, 0))) (.cells c3 t3 (0, 0))
    have s1 : ((w.alloc (.cells c1 t1 (0, 0))).alloc (.cells c2 t2 (0, 0))).heap.size = w.heap.size + 1 + 1 := by simp
    rw [s1] at k1
    exact k1
section
variable {w0 w : World} {g : Nat} {d : Gd} {vN vE : Value} {rg : Nat → Value} {t : Nat}
theorem Ply.put (h : Ply w0 w g d vN vE rg t) {w' : World} (hb : Below w0.heap.size w w') (h1 : ∀ b, Fh g d b → w'.heap[b]? = w.heap[b]?) (h2 : ∀ b, Fz vN vE rg d.t.nn b → w'.heap[b]? = w.heap[b]?) : Ply w0 w' g d vN vE rg t :=
  { h with gw := h.gw.keep h1, r := h.r.keep h2, bel := h.bel.trans hb }
/-- Both moved on, and the result was laid into its place. -/
theorem Ply.fin (h : Ply w0 w g d vN vE rg t) {w1 w2 : World} (hb : Below w.heap.size w w1) (h3 : w.heap.size + 3 ≤ w1.heap.size) {F : Nat → Prop} (hM : Mv F w1 w2) (hF : ∀ b, F b → Fh g d b) {d' : Gd} (hG : GW w2 g d') (hs : GSem d') (h1 : ∀ b, Fh g d' b → Fh g d b ∨ w1.heap.size ≤ b)
    {vN' vE' : Value} {rg' : Nat → Value} (hr : RG w1 vN' vE' rg' d') (hz : ∀ b, Fz vN' vE' rg' d'.t.nn b → Fz vN vE rg d.t.nn b ∨ w.heap.size + 3 ≤ b) {t' : Nat} (k1 : d'.t.nn ≤ t') (k2 : d'.f.ne ≤ t') (k3 : d'.f.np ≤ 21 * t') (k4 : ∀ i, i < d'.t.nn → (d'.t.N i).2.length ≤ 20) (u v : Value) :
    Ply w0 ((w2.setCell ⟨w.heap.size + 1 + 1, 0, none⟩ u).setCell ⟨w.heap.size + 1 + 1, 1, none⟩ v) g d' vN' vE' rg' t' ∧ Stp g w d vN vE rg ((w2.setCell ⟨w.heap.size + 1 + 1, 0, none⟩ u).setCell ⟨w.heap.size + 1 + 1, 1, none⟩ v) d' vN' vE' rg' := by
  have hsz := h.bel.size
  have hs1 := hb.size
  refine ⟨?_, ((((Mv.below hb).trans hM (fun b hb' => Or.inl (hF b hb'))).set (Or.inr (by show _ ≤ w.heap.size + 1 + 1; omega)) u).set (Or.inr (by show _ ≤ w.heap.size + 1 + 1; omega)) v), fun b hb' => (h1 b hb').imp id (fun h9 => by omega), fun b hb' => (hz b hb').imp id (fun h9 => by omega)⟩
  refine (h.move hb hM hF hG hs h1 hr (fun b hb' => (hz b hb').imp id (fun h9 => by omega)) k1 k2 k3 k4).put (below_store2 (Below.refl _ _) (by omega) _ _) (fun b hb' => ?_) (fun b hb' => ?_)
  · have hne : b ≠ w.heap.size + 1 + 1 := by
      rcases h1 b hb' with h9 | h9
      · have := h.gw.hlt h9; omega
      · omega
    rw [heap_setCell_other _ ⟨w.heap.size + 1 + 1, 1, none⟩ b _ hne, heap_setCell_other _ ⟨w.heap.size + 1 + 1, 0, none⟩ b _ hne]
  · have hne : b ≠ w.heap.size + 1 + 1 := by
      rcases hz b hb' with h9 | h9
      · have := h.r.lt h9; omega
      · omega
    rw [heap_setCell_other _ ⟨w.heap.size + 1 + 1, 1, none⟩ b _ hne, heap_setCell_other _ ⟨w.heap.size + 1 + 1, 0, none⟩ b _ hne]
end

set_option maxRecDepth 20000 in
set_option maxHeartbeats 16000000 in
theorem step_1 (w0 : World) (g : Nat) (d : Gd) (aN aE : Option Addr) (cN cE : Nat) (rg : Nat → Value) (t : Nat) (A : As) (o : OpS) (aZ : Option Addr) (cZ : Nat) (w : World) (h : Ply w0 w g d (.slice aN d.t.nn cN) (.slice aE d.f.ne cE) rg t) (hA : Abs d A) (ht : t ≤ 100) (h1 : o.kind = 1) :
    Calls Try.prog 12 #[.pointer (some ⟨g, 0, none⟩), .agg #[.slice aN d.t.nn cN, .slice aE d.f.ne cE], opV o aZ cZ] w fun e w' => StepEnd w0 g A o t w d (.slice aN d.t.nn cN) (.slice aE d.f.ne cE) rg e w' := by
  have HP : Hid (Ply w0 w g d (.slice aN d.t.nn cN) (.slice aE d.f.ne cE) rg t) := h
  have HA : Hid (Abs d A) := hA
  have HS : Hid (stepA A o = if (okIn A.1.length o.a && okIn A.1.length o.b) = true then (A.1, A.2 ++ [(o.a.toNat, o.b.toNat)]) else A) := by
    show _ = _
    unfold stepA
    rw [if_neg (by omega), if_pos h1]
  obtain ⟨kd, fn, zs, a, b⟩ := o
  obtain rfl : kd = 1 := h1
  have HT : Hid (t ≤ 100) := ht
  have hn1 : d.t.nn ≤ 10000 := by have := h.nn; omega
  have hn2 : d.f.ne ≤ 10000 := by have := h.ne; omega
  have HLT : Hid (g < w.heap.size) := h.gw.cw.lt
  clear h hA ht
  unfold opV
  obtain ⟨W0, hW0, B0, B1, B2, hb0, hsz⟩ := three w 28 40 28 #[.slice aN d.t.nn cN, .slice aE d.f.ne cE] #[.int .i64 1, .string fn, .slice aZ zs.length cZ, .int .i64 a, .int .i64 b] #[.slice none 0 0, .slice none 0 0]
  go_enter Try.func12, Try.ntmps12
  go_wp2_with fail
  rw [← hW0]
  clear hW0
  cases hok : (okIn d.t.nn a && okIn d.t.nn b) with
  | false =>
    refine (rEqual_bad aN aE d.t.nn cN d.f.ne cE a b W0 (by omega) hok).mono ?_
    rintro e w1 ⟨rfl, hb1⟩
    replace B1 := B1.stay hb1
    replace B2 := B2.stay hb1
    have hsz1 := hb1.size
    replace hb0 := hb0.trans (hb1.mono hb0.size)
    have HW : Hid (GW w1 g d) := HP.out.gw.below hb0
    obtain ⟨-, -, -, c3, c4⟩ := five5 B1
    have hl1 := B1.lt
    have hl2 := B2.lt
    clear hb1
    obtain ⟨W2, hW2⟩ : ∃ W2, W2 = w1.alloc (.cells #[.slice aN d.t.nn cN, .slice aE d.f.ne cE] 28 (0, 0)) := ⟨_, rfl⟩
    have B3 : Blk 28 W2 w1.heap.size #[.slice aN d.t.nn cN, .slice aE d.f.ne cE] := by rw [hW2]; exact heap_alloc_new w1 _
    have hb2 : Below w1.heap.size w1 W2 := by rw [hW2]; go_grown
    go_wp2_with fail
    rw [← hW2]
    clear hW2
    refine (Equal_bad g d a b W2 (HW.out.below hb2) hok hn1).mono ?_
    rintro e w3 ⟨rfl, hb3⟩
    replace B3 := B3.stay hb3
    replace hb2 := hb2.trans (hb3.mono hb2.size)
    replace B2 := B2.stay hb2
    have HB : Hid (Below w.heap.size w w3) := hb0.trans (hb2.mono (by omega))
    obtain ⟨c0, c1, z0, z1⟩ := B3.two
    obtain ⟨r0, r1, y0, y1⟩ := B2.two
    have hl1 := B3.lt
    have hl2 := B2.lt
    have HO : Hid ((okIn d.t.nn a && okIn d.t.nn b) = false) := hok
    clear hb3 hb2 hb0 hok c3 c4
    go_wp2
    refine bodyPost_ret (v := .tuple #[.agg #[.slice aN d.t.nn cN, .slice aE d.f.ne cE], .bool true]) (by simp [results, Try.results12, go_sem, r0, r1]) rfl ?_
    refine ⟨d, aN, aE, cN, cE, rg, rfl, (HP.out.below (below_store2 HB.out (by omega) _ _)).more, Stp.no (below_store2 HB.out (by omega) _ _), ?_⟩
    rw [HS.out, ← HA.out.nn, if_neg (by rw [HO.out]; decide)]
    exact HA.out
  | true =>
    obtain ⟨k1, k2⟩ := Bool.and_eq_true_iff.1 hok
    obtain ⟨na, rfl⟩ : ∃ na : Nat, a = na := ⟨a.toNat, by simp [okIn] at k1; omega⟩
    obtain ⟨nb, rfl⟩ : ∃ nb : Nat, b = nb := ⟨b.toNat, by simp [okIn] at k2; omega⟩
    have ha : na < d.t.nn := by simp [okIn] at k1; omega
    have hb : nb < d.t.nn := by simp [okIn] at k2; omega
    clear k1 k2
    refine (rEqual_any aN aE cN cE rg d na nb d.f.np W0 (HP.out.r.below hb0) ha hb hn1 hn2).mono ?_
    rintro e w1 ⟨aE', cE', rfl, hol, hfr, hb1⟩
    replace B1 := B1.stay hb1
    replace B2 := B2.stay hb1
    have hsz1 := hb1.size
    have HR : Hid (RG W0 (.slice aN d.t.nn cN) (.slice aE d.f.ne cE) rg d) := HP.out.r.below hb0
    have HR1 : Hid (OL 2 51 w1 (.slice aE' (d.f.ne + 1) cE') (d.f.ne + 1) (eqP { d.f with E := upd d.f.E d.f.ne (na, nb, d.f.np) }) ∧ RG w1 (.slice aN d.t.nn cN) (.slice aE d.f.ne cE) rg d) := ⟨hol, HR.out.below hb1⟩
    have HFR : Hid (∀ z, (Value.slice aE' (d.f.ne + 1) cE').ownBlock = some z → W0.heap.size ≤ z) := hfr
    replace hb0 := hb0.trans (hb1.mono hb0.size)
    have HW : Hid (GW w1 g d) := HP.out.gw.below hb0
    obtain ⟨-, -, -, c3, c4⟩ := five5 B1
    have hl1 := B1.lt
    have hl2 := B2.lt
    clear hb1 hol hfr HR
    obtain ⟨W2, hW2⟩ : ∃ W2, W2 = w1.alloc (.cells #[.slice aN d.t.nn cN, .slice aE' (d.f.ne + 1) cE'] 28 (0, 0)) := ⟨_, rfl⟩
    have B3 : Blk 28 W2 w1.heap.size #[.slice aN d.t.nn cN, .slice aE' (d.f.ne + 1) cE'] := by rw [hW2]; exact heap_alloc_new w1 _
    have hb2 : Below w1.heap.size w1 W2 := by rw [hW2]; go_grown
    go_wp2_with fail
    rw [← hW2]
    clear hW2
    refine (Equal_any g d na nb W2 (HW.out.below hb2) ha hb hn1 hn2).mono ?_
    rintro e w3 ⟨rfl, v', hG, hM, hf⟩
    have fa : ∀ b, Fg g d b → b < w.heap.size := fun b hb' => HP.out.gw.hlt (Or.inl hb')
    replace B3 := blk_mv B3 hM (fun hf' => by have := fa _ hf'; omega)
    replace B2 := blk_mv (B2.stay hb2) hM (fun hf' => by have := fa _ hf'; omega)
    have HEND : Hid (Below w.heap.size w W2 ∧ W2.heap.size ≤ w3.heap.size ∧ W0.heap.size ≤ W2.heap.size) := ⟨hb0.trans (hb2.mono (by omega)), hM.size, by have := hb2.size; omega⟩
    have HG : Hid (GW w3 g (dE d v' (na, nb, d.f.np)) ∧ Mv (Fg g d) W2 w3 ∧ ∀ c, Fg g (dE d v' (na, nb, d.f.np)) c → Fg g d c ∨ W2.heap.size ≤ c) := ⟨hG, hM, hf⟩
    have HR2 : Hid (RG W2 (.slice aN d.t.nn cN) (.slice aE' (d.f.ne + 1) cE') rg (dE d v' (na, nb, d.f.np))) := ⟨(HR1.out.2.below hb2).nodes, (HR1.out.2.below hb2).args, HR1.out.1.stay fun b hb' => hb2.block b (HR1.out.1.lt hb')⟩
    obtain ⟨c0, c1, z0, z1⟩ := B3.two
    obtain ⟨r0, r1, y0, y1⟩ := B2.two
    have hl1 := B3.lt
    have hl2 := B2.lt
    have HO : Hid ((okIn d.t.nn (na : Int) && okIn d.t.nn (nb : Int)) = true ∧ na < d.t.nn ∧ nb < d.t.nn ∧ W0.heap.size = w.heap.size + 3) := ⟨hok, ha, hb, hsz⟩
    clear hb2 hb0 hok c3 c4 hG hM hf fa HR1 HW
    go_wp2
    refine bodyPost_ret (v := .tuple #[.agg #[.slice aN d.t.nn cN, .slice aE' (d.f.ne + 1) cE'], .bool true]) (by simp [results, Try.results12, go_sem, r0, r1]) rfl ?_
    refine ⟨dE d v' (na, nb, d.f.np), aN, aE', cN, cE', rg, rfl, and_assoc.1 ⟨?_, ?_⟩⟩
    · refine HP.out.fin HEND.out.1 (by have := HEND.out.2.2; have := HO.out.2.2.2; omega) HG.out.2.1 (fun b hb' => Or.inl hb') HG.out.1 (dE_sem HP.out.sem HO.out.2.1 HO.out.2.2.1) ?_ HR2.out ?_ (Nat.le_succ_of_le HP.out.nn) (Nat.succ_le_succ HP.out.ne) (Nat.le_trans HP.out.np (by omega)) HP.out.al _ _
      · rintro b (hb' | hb')
        · exact (HG.out.2.2 b hb').imp Or.inl id
        · exact Or.inl (Or.inr hb')
      · rintro b (hb' | hb' | hb')
        · exact Or.inl (Or.inl hb')
        · have := HFR.out b hb'; have := HO.out.2.2.2; right; omega
        · exact Or.inl (Or.inr (Or.inr hb'))
    · rw [HS.out, ← HA.out.nn, if_pos HO.out.1]
      exact HA.out.pushE v' na nb d.f.np
end Euf
end Go.Proofs.Ytmnpefiaelpkfac
