/- One call at both graphs: Node; no statement of the seat is proved here. -/
import Derived.Test.YtmnpefiaelpkfacEufSaJClasses
namespace Go.Proofs.Ytmnpefiaelpkfac
open Go.RowKit
set_option linter.unusedVariables false
namespace Euf
theorem all_nat {zs : List Int} {n : Nat} (h : zs.all (okIn n) = true) : (zs.map Int.toNat).map Int.ofNat = zs ∧ ∀ b ∈ zs.map Int.toNat, b < n := by
  rw [List.all_eq_true] at h
  constructor
  · rw [List.map_map]
    conv => rhs; rw [← List.map_id zs]
    refine List.map_congr_left (fun z hz => ?_)
    have := h z hz
    simp [okIn] at this
    show ((z.toNat : Nat) : Int) = z
    omega
  · intro b hb
    obtain ⟨z, hz, rfl⟩ := List.mem_map.1 hb
    have := h z hz
    simp [okIn] at this
    omega
theorem seg_of_ai {w : World} {ao : Option Addr} {cap : Nat} {zs : List Int} {l : List Nat} (h : AI w (.slice ao zs.length cap) zs) (hl : l.map Int.ofNat = zs) : Seg .i64 w ao l := by
  obtain ⟨a1, c1, e1, -, h2⟩ := h
  injection e1 with e1
  subst e1 hl
  rcases h2 with h2 | ⟨b, off, k1, -, k2⟩
  · left
    have := congrArg List.length h2
    simp at this
    exact this
  · refine Or.inr ⟨b, off, k1, fun i hi => ?_⟩
    rw [k2 i (by simpa using hi), List.getD_eq_getElem?_getD, List.getD_eq_getElem?_getD, List.getElem?_map, List.getElem?_eq_getElem hi]
    rfl
theorem rg_push {w : World} {d d' : Gd} {s : ByteArray} {l : List Nat} {rg : Nat → Value} {aN' aE : Option Addr} {cN' cE : Nat} {u : Value} (hg : Grown d s l d') {vN : Value} (h : RG w vN (.slice aE d.f.ne cE) rg d) (h1 : OL 2 84 w (.slice aN' (d.t.nn + 1) cN') (d.t.nn + 1) (ndC (upd d.t.N d.t.nn (s, l)) (upd rg d.t.nn u))) (h2 : OL 1 3 w u l.length (natC l)) : RG w (.slice aN' d'.t.nn cN') (.slice aE d'.f.ne cE) (upd rg d.t.nn u) d' := by
  refine ⟨?_, fun i hi => ?_, ?_⟩
  · rw [hg.nn, hg.N]; exact h1
  · rw [hg.N]
    by_cases e : i = d.t.nn
    · subst e; rw [upd_same, upd_same]; exact h2
    · rw [upd_other _ _ e, upd_other _ _ e]; exact h.args i (by rw [hg.nn] at hi; omega)
  · have e : eqP d'.f = eqP d.f := by funext i; unfold eqP; rw [hg.ne.2]
    rw [hg.ne.1, e]; exact h.eqs

set_option maxRecDepth 20000 in
set_option maxHeartbeats 16000000 in
theorem step_0 (w0 : World) (g : Nat) (d : Gd) (aN aE : Option Addr) (cN cE : Nat) (rg : Nat → Value) (t : Nat) (A : As) (o : OpS) (aZ : Option Addr) (cZ : Nat) (w : World) (h : Ply w0 w g d (.slice aN d.t.nn cN) (.slice aE d.f.ne cE) rg t) (hA : Abs d A) (ho : OpOk w0 o aZ cZ) (ht : t ≤ 100) (h1 : o.kind = 0) :
    Calls Try.prog 12 #[.pointer (some ⟨g, 0, none⟩), .agg #[.slice aN d.t.nn cN, .slice aE d.f.ne cE], opV o aZ cZ] w fun e w' => StepEnd w0 g A o t w d (.slice aN d.t.nn cN) (.slice aE d.f.ne cE) rg e w' := by
  have HP : Hid (Ply w0 w g d (.slice aN d.t.nn cN) (.slice aE d.f.ne cE) rg t) := h
  have HA : Hid (Abs d A) := hA
  have HS : Hid (stepA A o = if o.zs.all (okIn A.1.length) = true then (if A.1.any (sameNd (o.fn, o.zs.map Int.toNat)) = true then A else (A.1 ++ [(o.fn, o.zs.map Int.toNat)], A.2)) else A) := by
    show _ = _
    unfold stepA
    rw [if_pos h1]
  obtain ⟨kd, fn, zs, a, b⟩ := o
  obtain rfl : kd = 0 := h1
  have HT : Hid (t ≤ 100) := ht
  have HN : Hid (d.t.nn ≤ 10000 ∧ d.f.ne ≤ 10000 ∧ d.f.np + zs.length + 1 ≤ 10000) := ⟨by have := h.nn; omega, by have := h.ne; omega, by have := h.np; have : zs.length ≤ 20 := ho.len; omega⟩
  have HO : Hid (AI w0 (.slice aZ zs.length cZ) zs ∧ (aZ = none → zs = [] ∧ cZ = 0) ∧ (0 < zs.length → ∀ b off, aZ = some ⟨b, off, none⟩ → b < w0.heap.size) ∧ fn.size ≤ maxLen ∧ zs.length ≤ 20) := ⟨ho.zs, ho.nil, ho.blk, ho.fn, ho.len⟩
  have HZ : Hid (AI w (.slice aZ zs.length cZ) zs) := ho.zs.below h.bel
  clear h hA ht ho
  unfold opV
  obtain ⟨W0, hW0, B0, B1, B2, hb0, hsz⟩ := three w 28 40 28 #[.slice aN d.t.nn cN, .slice aE d.f.ne cE] #[.int .i64 0, .string fn, .slice aZ zs.length cZ, .int .i64 a, .int .i64 b] #[.slice none 0 0, .slice none 0 0]
  go_enter Try.func12, Try.ntmps12
  go_wp2_with fail
  rw [← hW0]
  clear hW0
  refine (rNode_any aN aE cN cE rg d fn _ zs W0 (HP.out.r.below hb0) (HZ.out.below hb0) (fun c hc => by injection hc with e1 e2 e3; rw [← e3]; exact (HO.out.2.1 e1).2) (by have := HO.out.2.2.2.2; omega) HN.out.1 HN.out.2.1 (fun i hi => by have := HP.out.al i hi; omega)).mono ?_
  rintro e w1 ⟨hb1, hcase⟩
  replace B1 := B1.stay hb1
  replace B2 := B2.stay hb1
  have hsz1 := hb1.size
  have HR1 : Hid (RG w1 (.slice aN d.t.nn cN) (.slice aE d.f.ne cE) rg d) := (HP.out.r.below hb0).below hb1
  replace hb0 := hb0.trans (hb1.mono hb0.size)
  have HW : Hid (GW w1 g d) := HP.out.gw.below hb0
  have HZ1 : Hid (AI w1 (.slice aZ zs.length cZ) zs) := HZ.out.below hb0
  obtain ⟨-, c3, c4, -, -⟩ := five5 B1
  have hl1 := B1.lt
  have hl2 := B2.lt
  rcases hcase with ⟨hz, rfl⟩ | ⟨hz, i, hi, hNi, rfl⟩ | ⟨hz, hno, aN', cN', u, rfl, hol, hou, hf1, hf2⟩
  · clear hb1
    have HX : Hid (zs.all (okIn d.t.nn) = false) := hz
    clear hz
    obtain ⟨W2, hW2⟩ : ∃ W2, W2 = w1.alloc (.cells #[.slice aN d.t.nn cN, .slice aE d.f.ne cE] 28 (0, 0)) := ⟨_, rfl⟩
    have B3 : Blk 28 W2 w1.heap.size #[.slice aN d.t.nn cN, .slice aE d.f.ne cE] := by rw [hW2]; exact heap_alloc_new w1 _
    have hb2 : Below w1.heap.size w1 W2 := by rw [hW2]; go_grown
    go_wp2_with fail
    rw [← hW2]
    clear hW2
    refine (Node_bad g d fn _ zs W2 (HW.out.below hb2) (HZ1.out.below hb2) HX.out HN.out.1).mono ?_
    rintro e w3 ⟨rfl, hb3⟩
    replace B3 := B3.stay hb3
    replace hb2 := hb2.trans (hb3.mono hb2.size)
    replace B2 := B2.stay hb2
    have HB : Hid (Below w.heap.size w w3) := hb0.trans (hb2.mono (by omega))
    obtain ⟨c0, c1, z0, z1⟩ := B3.two
    obtain ⟨r0, r1, y0, y1⟩ := B2.two
    have hl1 := B3.lt
    have hl2 := B2.lt
    clear hb3 hb2 hb0 c3 c4
    go_wp2
    refine bodyPost_ret (v := .tuple #[.agg #[.slice aN d.t.nn cN, .slice aE d.f.ne cE], .bool true]) (by simp [results, Try.results12, go_sem, r0, r1]) rfl ?_
    refine ⟨d, aN, aE, cN, cE, rg, rfl, (HP.out.below (below_store2 HB.out (by omega) _ _)).more, Stp.no (below_store2 HB.out (by omega) _ _), ?_⟩
    rw [HS.out, ← HA.out.nn, if_neg (by show ¬ (zs.all (okIn d.t.nn) = true); rw [HX.out]; decide)]
    exact HA.out
  · clear hb1
    have HX : Hid (zs.all (okIn d.t.nn) = true ∧ i < d.t.nn ∧ d.t.N i = (fn, zs.map Int.toNat)) := ⟨hz, hi, hNi⟩
    clear hz hi hNi
    obtain ⟨W2, hW2⟩ : ∃ W2, W2 = w1.alloc (.cells #[.slice aN d.t.nn cN, .slice aE d.f.ne cE] 28 (0, 0)) := ⟨_, rfl⟩
    have B3 : Blk 28 W2 w1.heap.size #[.slice aN d.t.nn cN, .slice aE d.f.ne cE] := by rw [hW2]; exact heap_alloc_new w1 _
    have hb2 : Below w1.heap.size w1 W2 := by rw [hW2]; go_grown
    go_wp2_with fail
    rw [← hW2]
    clear hW2
    have hc := Node_all g d fn (zs.map Int.toNat) aZ cZ W2 (HW.out.below hb2) HP.out.sem.ok.t HO.out.2.2.2.1 (by rw [List.length_map]; have := HO.out.2.2.2.2; omega) (seg_of_ai (HZ1.out.below hb2) (all_nat HX.out.1).1) (fun h0 b off e hf => by rw [List.length_map] at h0; have := HO.out.2.2.1 h0 b off e; have := HP.out.fh b (Or.inl (Or.inl hf)); omega) (all_nat HX.out.1).2 (by rw [List.length_map]; exact HN.out.2.2) HN.out.1
    rw [List.length_map] at hc
    refine hc.mono ?_
    clear hc
    rintro e w3 ⟨r, rfl, hend⟩
    obtain ⟨rfl, hb3⟩ : i = r ∧ Below W2.heap.size W2 w3 := by
      rcases hend with ⟨k1, k2, k3⟩ | ⟨-, k2, -⟩
      · exact ⟨HP.out.sem.ok.t.one HX.out.2.1 k1 (HX.out.2.2.trans k2.symm), k3⟩
      · exact absurd HX.out.2.2 (k2 i HX.out.2.1)
    replace B3 := B3.stay hb3
    replace hb2 := hb2.trans (hb3.mono hb2.size)
    replace B2 := B2.stay hb2
    have HB : Hid (Below w.heap.size w w3) := hb0.trans (hb2.mono (by omega))
    obtain ⟨c0, c1, z0, z1⟩ := B3.two
    obtain ⟨r0, r1, y0, y1⟩ := B2.two
    have hl1 := B3.lt
    have hl2 := B2.lt
    clear hb3 hb2 hb0 c3 c4 hend
    go_wp2
    refine bodyPost_ret (v := .tuple #[.agg #[.slice aN d.t.nn cN, .slice aE d.f.ne cE], .bool true]) (by simp [results, Try.results12, go_sem, r0, r1]) rfl ?_
    refine ⟨d, aN, aE, cN, cE, rg, rfl, (HP.out.below (below_store2 HB.out (by omega) _ _)).more, Stp.no (below_store2 HB.out (by omega) _ _), ?_⟩
    rw [HS.out, ← HA.out.nn, if_pos HX.out.1, if_pos ((has_iff _ _).2 ((HA.out.mem _).2 ⟨i, HX.out.2.1, HX.out.2.2⟩))]
    exact HA.out
  · clear hb1
    have HX : Hid (zs.all (okIn d.t.nn) = true ∧ (∀ j, j < d.t.nn → d.t.N j ≠ (fn, zs.map Int.toNat)) ∧ W0.heap.size = w.heap.size + 3) := ⟨hz, hno, hsz⟩
    have HOL : Hid (OL 2 84 w1 (.slice aN' (d.t.nn + 1) cN') (d.t.nn + 1) (ndC (upd d.t.N d.t.nn (fn, zs.map Int.toNat)) (upd rg d.t.nn u)) ∧ OL 1 3 w1 u zs.length (natC (zs.map Int.toNat)) ∧
      (∀ z, (Value.slice aN' (d.t.nn + 1) cN').ownBlock = some z → W0.heap.size ≤ z) ∧ (∀ z, u.ownBlock = some z → W0.heap.size ≤ z)) := ⟨hol, hou, hf1, hf2⟩
    clear hz hno hol hou hf1 hf2
    obtain ⟨W2, hW2⟩ : ∃ W2, W2 = w1.alloc (.cells #[.slice aN' (d.t.nn + 1) cN', .slice aE d.f.ne cE] 28 (0, 0)) := ⟨_, rfl⟩
    have B3 : Blk 28 W2 w1.heap.size #[.slice aN' (d.t.nn + 1) cN', .slice aE d.f.ne cE] := by rw [hW2]; exact heap_alloc_new w1 _
    have hb2 : Below w1.heap.size w1 W2 := by rw [hW2]; go_grown
    go_wp2_with fail
    rw [← hW2]
    clear hW2
    have hc := Node_all g d fn (zs.map Int.toNat) aZ cZ W2 (HW.out.below hb2) HP.out.sem.ok.t HO.out.2.2.2.1 (by rw [List.length_map]; have := HO.out.2.2.2.2; omega) (seg_of_ai (HZ1.out.below hb2) (all_nat HX.out.1).1) (fun h0 b off e hf => by rw [List.length_map] at h0; have := HO.out.2.2.1 h0 b off e; have := HP.out.fh b (Or.inl (Or.inl hf)); omega) (all_nat HX.out.1).2 (by rw [List.length_map]; exact HN.out.2.2) HN.out.1
    rw [List.length_map] at hc
    refine hc.mono ?_
    clear hc
    rintro e w3 ⟨r, rfl, hend⟩
    obtain ⟨rfl, d', hg, hG, hM, hf, hag⟩ : r = d.t.nn ∧ ∃ d', Grown d fn (zs.map Int.toNat) d' ∧ GW w3 g d' ∧ Mv (Fn g d) W2 w3 ∧ (∀ b, Fn g d' b → Fn g d b ∨ W2.heap.size ≤ b) ∧ ∃ u b, d'.ag = upd d.ag d.t.nn u ∧ u.ownBlock = some b ∧ W2.heap.size ≤ b := by
      rcases hend with ⟨k1, k2, k3⟩ | ⟨k1, -, k3⟩
      · exact absurd k2 (HX.out.2.1 r k1)
      · exact ⟨k1, k3⟩
    have fa : ∀ b, Fn g d b → b < w.heap.size := fun b hb' => HP.out.gw.hlt (Or.inl (Or.inl hb'))
    replace B3 := blk_mv B3 hM (fun hf' => by have := fa _ hf'; omega)
    replace B2 := blk_mv (B2.stay hb2) hM (fun hf' => by have := fa _ hf'; omega)
    have HEND : Hid (Below w.heap.size w W2 ∧ W2.heap.size ≤ w3.heap.size ∧ W0.heap.size ≤ W2.heap.size) := ⟨hb0.trans (hb2.mono (by omega)), hM.size, by have := hb2.size; omega⟩
    have HG : Hid (Grown d fn (zs.map Int.toNat) d' ∧ GW w3 g d' ∧ Mv (Fn g d) W2 w3 ∧ ∀ b, Fh g d' b → Fh g d b ∨ W2.heap.size ≤ b) := ⟨hg, hG, hM, hg.fh hf hag⟩
    have HR2 : Hid (RG W2 (.slice aN' d'.t.nn cN') (.slice aE d'.f.ne cE) (upd rg d.t.nn u) d') := by
      refine rg_push hg (HR1.out.below hb2) (HOL.out.1.stay fun b hb' => hb2.block b (HOL.out.1.lt hb')) ?_
      rw [List.length_map]
      exact HOL.out.2.1.stay fun b hb' => hb2.block b (HOL.out.2.1.lt hb')
    obtain ⟨c0, c1, z0, z1⟩ := B3.two
    obtain ⟨r0, r1, y0, y1⟩ := B2.two
    have hl1 := B3.lt
    have hl2 := B2.lt
    clear hb2 hb0 c3 c4 hend hg hG hM hf hag fa HR1 HW
    go_wp2
    refine bodyPost_ret (v := .tuple #[.agg #[.slice aN' (d.t.nn + 1) cN', .slice aE d.f.ne cE], .bool true]) (by simp [results, Try.results12, go_sem, r0, r1]) rfl ?_
    have hg := HG.out.1
    refine ⟨d', aN', aE, cN', cE, upd rg d.t.nn u, by rw [hg.nn, hg.ne.1], and_assoc.1 ⟨?_, ?_⟩⟩
    · refine HP.out.fin HEND.out.1 (by have := HEND.out.2.2; have := HX.out.2.2; omega) HG.out.2.2.1 (fun b hb' => Or.inl (Or.inl hb')) HG.out.2.1 (hg.sem HP.out.sem) HG.out.2.2.2 HR2.out ?_ (by rw [hg.nn]; exact Nat.succ_le_succ HP.out.nn) (by rw [hg.ne.1]; exact Nat.le_succ_of_le HP.out.ne) ?_ (fun i hi => ?_) _ _
      · rintro b (hb' | hb' | ⟨j, hj, hb'⟩)
        · rw [hg.nn] at hb'
          have := HOL.out.2.2.1 b hb'; have := HX.out.2.2; right; omega
        · rw [hg.ne.1] at hb'
          exact Or.inl (Or.inr (Or.inl hb'))
        · by_cases e : j = d.t.nn
          · subst e; rw [upd_same] at hb'
            have := HOL.out.2.2.2 b hb'; have := HX.out.2.2; right; omega
          · rw [upd_other _ _ e] at hb'
            rw [hg.nn] at hj
            exact Or.inl (Or.inr (Or.inr ⟨j, by omega, hb'⟩))
      · have k1 := hg.np.2
        rw [List.length_map] at k1
        have := HO.out.2.2.2.2
        have := HP.out.np
        omega
      · rw [hg.N]
        by_cases e : i = d.t.nn
        · subst e; rw [upd_same]
          show (zs.map Int.toNat).length ≤ 20
          rw [List.length_map]; exact HO.out.2.2.2.2
        · rw [upd_other _ _ e]; exact HP.out.al i (by rw [hg.nn] at hi; omega)
    · rw [HS.out, ← HA.out.nn, if_pos HX.out.1, if_neg (fun h9 => by
        obtain ⟨i, k1, k2⟩ := (HA.out.mem _).1 ((has_iff _ _).1 h9)
        exact HX.out.2.1 i k1 k2)]
      exact HA.out.push hg.nn hg.N hg.ne.1 hg.ne.2
end Euf
end Go.Proofs.Ytmnpefiaelpkfac
