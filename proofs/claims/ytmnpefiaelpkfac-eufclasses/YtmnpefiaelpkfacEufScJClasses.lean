/- One call at both graphs: Back, and any call; no statement of the seat is proved here. -/
import Derived.Test.YtmnpefiaelpkfacEufSbJClasses
namespace Go.Proofs.Ytmnpefiaelpkfac
open Go.RowKit
set_option linter.unusedVariables false
namespace Euf
theorem rg_cut {w : World} {d d' : Gd} {aN aE aE' : Option Addr} {cN cE cE' n : Nat} {rg : Nat → Value} (h : RG w (.slice aN d.t.nn cN) (.slice aE d.f.ne cE) rg d) (hn : n ≤ d.f.ne) (h1 : d'.t = d.t) (h2 : d'.f = { d.f with ne := n }) (h3 : (aE' = aE ∧ cE' = cE) ∧ (aE = none → n = 0 ∧ cE = 0)) : RG w (.slice aN d'.t.nn cN) (.slice aE' d'.f.ne cE') rg d' := by
  obtain ⟨⟨rfl, rfl⟩, h4⟩ := h3
  refine ⟨by rw [h1]; exact h.nodes, by rw [h1]; exact h.args, ?_⟩
  have e : eqP d'.f = eqP d.f := by funext i; unfold eqP; rw [h2]
  have e2 : d'.f.ne = n := by rw [h2]
  rw [e, e2]
  rcases h.eqs.cut with ⟨e1, e2⟩ | ⟨gs, cap, e1, e2, e3⟩
  · injection e1 with e1 e4 e5
    obtain ⟨k1, k2⟩ := h4 e1
    rw [k1, k2, e1]; exact OL.nil _ _ _ _
  · injection e1 with e1 e4 e5
    subst e1 e5
    exact e3 n hn

set_option maxRecDepth 20000 in
set_option maxHeartbeats 16000000 in
theorem step_2 (w0 : World) (g : Nat) (d : Gd) (aN aE : Option Addr) (cN cE : Nat) (rg : Nat → Value) (t : Nat) (A : As) (o : OpS) (aZ : Option Addr) (cZ : Nat) (w : World) (h : Ply w0 w g d (.slice aN d.t.nn cN) (.slice aE d.f.ne cE) rg t) (hA : Abs d A) (ht : t ≤ 100) (h1 : o.kind = 2) :
    Calls Try.prog 12 #[.pointer (some ⟨g, 0, none⟩), .agg #[.slice aN d.t.nn cN, .slice aE d.f.ne cE], opV o aZ cZ] w fun e w' => StepEnd w0 g A o t w d (.slice aN d.t.nn cN) (.slice aE d.f.ne cE) rg e w' := by
  have HP : Hid (Ply w0 w g d (.slice aN d.t.nn cN) (.slice aE d.f.ne cE) rg t) := h
  have HA : Hid (Abs d A) := hA
  have HS : Hid (stepA A o = if 0 ≤ o.a ∧ o.a ≤ (A.2.length : Int) then (A.1, A.2.take o.a.toNat) else A) := by
    show _ = _
    unfold stepA
    rw [if_neg (by omega), if_neg (by omega), if_pos h1]
  obtain ⟨kd, fn, zs, a, b⟩ := o
  obtain rfl : kd = 2 := h1
  have HT : Hid (t ≤ 100) := ht
  have hn1 : d.t.nn ≤ 10000 := by have := h.nn; omega
  have hn2 : d.f.ne ≤ 10000 := by have := h.ne; omega
  clear h hA ht
  unfold opV
  obtain ⟨W0, hW0, B0, B1, B2, hb0, hsz⟩ := three w 28 40 28 #[.slice aN d.t.nn cN, .slice aE d.f.ne cE] #[.int .i64 2, .string fn, .slice aZ zs.length cZ, .int .i64 a, .int .i64 b] #[.slice none 0 0, .slice none 0 0]
  go_enter Try.func12, Try.ntmps12
  go_wp2_with fail
  rw [← hW0]
  clear hW0
  have HW : Hid (GW W0 g d) := HP.out.gw.below hb0
  have HR : Hid (RG W0 (.slice aN d.t.nn cN) (.slice aE d.f.ne cE) rg d) := HP.out.r.below hb0
  by_cases hr : a < 0 ∨ (d.f.ne : Int) < a
  · refine (Back_bad g d a W0 HW.out hr).mono ?_
    rintro e w1 ⟨rfl, hb1⟩
    replace B0 := B0.stay hb1
    replace B1 := B1.stay hb1
    replace B2 := B2.stay hb1
    have HB : Hid (Below w.heap.size w w1) := hb0.trans (hb1.mono hb0.size)
    have HSA : Hid (stepA A ⟨2, fn, zs, a, b⟩ = A) := by
      show _ = _
      rw [HS.out, ← HA.out.ne, if_neg (by show ¬ (0 ≤ a ∧ a ≤ (d.f.ne : Int)); omega)]
    obtain ⟨-, -, -, c3, -⟩ := five5 B1
    obtain ⟨c0, c1, z0, z1⟩ := B0.two
    obtain ⟨r0, r1, y0, y1⟩ := B2.two
    have hl0 := B0.lt
    have hl1 := B1.lt
    have hl2 := B2.lt
    clear hb1 hb0 HS
    by_cases h0 : a < 0
    · clear hr
      go_wp2
      refine bodyPost_ret (v := .tuple #[.agg #[.slice aN d.t.nn cN, .slice aE d.f.ne cE], .bool true]) (by simp [results, Try.results12, go_sem, r0, r1]) rfl ?_
      refine ⟨d, aN, aE, cN, cE, rg, rfl, (HP.out.below (below_store2 HB.out (by omega) _ _)).more, Stp.no (below_store2 HB.out (by omega) _ _), ?_⟩
      rw [HSA.out]; exact HA.out
    · replace hr := hr.resolve_left h0
      go_wp2
      refine bodyPost_ret (v := .tuple #[.agg #[.slice aN d.t.nn cN, .slice aE d.f.ne cE], .bool true]) (by simp [results, Try.results12, go_sem, r0, r1]) rfl ?_
      refine ⟨d, aN, aE, cN, cE, rg, rfl, (HP.out.below (below_store2 HB.out (by omega) _ _)).more, Stp.no (below_store2 HB.out (by omega) _ _), ?_⟩
      rw [HSA.out]; exact HA.out
  · obtain ⟨n, rfl⟩ : ∃ n : Nat, a = n := ⟨a.toNat, by omega⟩
    have hn : n ≤ d.f.ne := by omega
    clear hr
    refine (Back_any g d n W0 HW.out HP.out.sem hn).mono ?_
    rintro e w1 ⟨rfl, d', hG, hs, e1, e2, e3, hM, hf⟩
    have fa : ∀ b, Fg g d b → b < w.heap.size := fun b hb' => HP.out.gw.hlt (Or.inl hb')
    replace B0 := blk_mv B0 hM (fun hf' => by have := fa _ hf'; omega)
    replace B1 := blk_mv B1 hM (fun hf' => by have := fa _ hf'; omega)
    replace B2 := blk_mv B2 hM (fun hf' => by have := fa _ hf'; omega)
    have HB : Hid (Below w.heap.size w W0 ∧ W0.heap.size = w.heap.size + 3) := ⟨hb0, hsz⟩
    have HG : Hid (GW w1 g d' ∧ GSem d' ∧ d'.t = d.t ∧ d'.f = { d.f with ne := n } ∧ Mv (Fg g d) W0 w1 ∧ ∀ b, Fh g d' b → Fh g d b) := ⟨hG, hs, e1, e2, hM, fun b hb' => by
      rcases hb' with hb' | ⟨i, hi, hb'⟩
      · exact Or.inl (hf b hb')
      · rw [e3] at hb'; rw [e1] at hi; exact Or.inr ⟨i, hi, hb'⟩⟩
    have HSA : Hid (Abs d' (stepA A ⟨2, fn, zs, n, b⟩)) := by
      show Abs _ _
      rw [HS.out, ← HA.out.ne, if_pos (by show 0 ≤ (n : Int) ∧ (n : Int) ≤ (d.f.ne : Int); omega)]
      exact HA.out.cut (by rw [← HA.out.ne]; exact hn) e1 e2
    obtain ⟨aE', cE', HE, hE⟩ : ∃ aE' cE', Hid ((aE' = aE ∧ cE' = cE) ∧ (aE = none → n = 0 ∧ cE = 0)) ∧ ((aE = none ∧ aE' = none ∧ n = 0 ∧ d.f.ne = 0 ∧ cE = 0 ∧ cE' = 0) ∨ ∃ gs, aE = some ⟨gs, 0, none⟩ ∧ aE' = some ⟨gs, 0, none⟩ ∧ cE' = cE ∧ d.f.ne ≤ cE) := by
      obtain ⟨a9, c9, k1, k2, k3, k4, k5⟩ := HR.out.eqs.shape
      rcases HR.out.eqs.cut with ⟨q1, q2⟩ | ⟨gs, cap, q1, q2, q3⟩
      · injection q1 with q1 q4 q5
        exact ⟨none, 0, ⟨⟨q1.symm, q5.symm⟩, fun _ => ⟨by omega, q5⟩⟩, Or.inl ⟨q1, rfl, by omega, q2, q5, rfl⟩⟩
      · injection q1 with q1 q4 q5
        exact ⟨aE, cE, ⟨⟨rfl, rfl⟩, fun e => by rw [q1] at e; cases e⟩, Or.inr ⟨gs, q1, q1, rfl, by omega⟩⟩
    obtain ⟨-, -, -, c3, -⟩ := five5 B1
    obtain ⟨c0, c1, z0, z1⟩ := B0.two
    obtain ⟨r0, r1, y0, y1⟩ := B2.two
    have hl0 := B0.lt
    have hl1 := B1.lt
    have hl2 := B2.lt
    have HN : Hid (n ≤ d.f.ne) := hn
    have h0 : ¬ ((n : Int) < 0) := by omega
    have h1 : ¬ ((d.f.ne : Int) < (n : Int)) := by omega
    clear hb0 HS hG hs e1 e2 e3 hM hf fa hsz
    have fin : ∀ u v : Value, Ply w0 ((w1.setCell ⟨w.heap.size + 1 + 1, 0, none⟩ u).setCell ⟨w.heap.size + 1 + 1, 1, none⟩ v).drew g d' (.slice aN d'.t.nn cN) (.slice aE' d'.f.ne cE') rg (t + 1) ∧ Stp g w d (.slice aN d.t.nn cN) (.slice aE d.f.ne cE) rg ((w1.setCell ⟨w.heap.size + 1 + 1, 0, none⟩ u).setCell ⟨w.heap.size + 1 + 1, 1, none⟩ v).drew d' (.slice aN d'.t.nn cN) (.slice aE' d'.f.ne cE') rg := by
      intro u v
      obtain ⟨g1, g2, g3, g4, g5, g6⟩ := HG.out
      have hzz : ∀ b, Fz (.slice aN d'.t.nn cN) (.slice aE' d'.f.ne cE') rg d'.t.nn b → Fz (.slice aN d.t.nn cN) (.slice aE d.f.ne cE) rg d.t.nn b ∨ w.heap.size + 3 ≤ b := by
        obtain ⟨⟨e1, e2⟩, -⟩ := HE.out
        subst e1 e2
        rw [g3]
        rintro b (hb' | hb' | hb')
        · exact Or.inl (Or.inl hb')
        · left; right; left
          cases aE' with
          | none => cases hb'
          | some p => exact hb'
        · exact Or.inl (Or.inr (Or.inr hb'))
      have hfin := (HP.out.fin HB.out.1 (by have := HB.out.2; omega) g5 (fun b hb' => Or.inl hb') g1 g2 (fun b hb' => Or.inl (g6 b hb')) (rg_cut HR.out HN.out g3 g4 HE.out) hzz (by rw [g3]; exact Nat.le_succ_of_le HP.out.nn) (by rw [g4]; exact Nat.le_succ_of_le (Nat.le_trans HN.out HP.out.ne)) (by rw [g4]; exact Nat.le_trans HP.out.np (by omega)) (by rw [g3]; exact HP.out.al) u v)
      exact ⟨hfin.1.below ⟨rfl, rfl, rfl, Nat.le_refl _, fun _ _ => rfl⟩, hfin.2.mv.drew, hfin.2.h, hfin.2.z⟩
    have HF : Hid (∀ u v : Value, Ply w0 ((w1.setCell ⟨w.heap.size + 1 + 1, 0, none⟩ u).setCell ⟨w.heap.size + 1 + 1, 1, none⟩ v).drew g d' (.slice aN d'.t.nn cN) (.slice aE' d'.f.ne cE') rg (t + 1) ∧ Stp g w d (.slice aN d.t.nn cN) (.slice aE d.f.ne cE) rg ((w1.setCell ⟨w.heap.size + 1 + 1, 0, none⟩ u).setCell ⟨w.heap.size + 1 + 1, 1, none⟩ v).drew d' (.slice aN d'.t.nn cN) (.slice aE' d'.f.ne cE') rg) := fin
    have HD : Hid (d'.t.nn = d.t.nn ∧ d'.f.ne = n) := by obtain ⟨g1, g2, g3, g4, g5, g6⟩ := HG.out; exact ⟨by rw [g3], by rw [g4]⟩
    clear fin HG HR HW HB HA HE
    rcases hE with ⟨rfl, rfl, rfl, q4, rfl, rfl⟩ | ⟨gs, rfl, rfl, rfl, q4⟩
    · go_wp2
      go_region
      go_wp2
      refine bodyPost_ret (v := .tuple #[.agg #[.slice aN d.t.nn cN, .slice none 0 0], .bool true]) (by simp [results, Try.results12, go_sem, r0, r1]) rfl ?_
      refine ⟨d', aN, none, cN, 0, rg, by rw [HD.out.1, HD.out.2], (HF.out _ _).1, (HF.out _ _).2, HSA.out⟩
    · have hnc : n ≤ cE' := by omega
      go_wp2
      go_region
      go_wp2
      refine bodyPost_ret (v := .tuple #[.agg #[.slice aN d.t.nn cN, .slice (some ⟨gs, 0, none⟩) n cE'], .bool true]) (by simp [results, Try.results12, go_sem, r0, r1]) rfl ?_
      refine ⟨d', aN, some ⟨gs, 0, none⟩, cN, cE', rg, by rw [HD.out.1, HD.out.2], (HF.out _ _).1, (HF.out _ _).2, HSA.out⟩
/-- A call at both. -/
theorem lstep_any (w0 : World) (g : Nat) (d : Gd) (aN aE : Option Addr) (cN cE : Nat) (rg : Nat → Value) (t : Nat) (A : As) (o : OpS) (aZ : Option Addr) (cZ : Nat) (w : World) (h : Ply w0 w g d (.slice aN d.t.nn cN) (.slice aE d.f.ne cE) rg t) (hA : Abs d A) (ho : OpOk w0 o aZ cZ) (ht : t ≤ 100) :
    Calls Try.prog 12 #[.pointer (some ⟨g, 0, none⟩), .agg #[.slice aN d.t.nn cN, .slice aE d.f.ne cE], opV o aZ cZ] w fun e w' => StepEnd w0 g A o t w d (.slice aN d.t.nn cN) (.slice aE d.f.ne cE) rg e w' := by
  by_cases h0 : o.kind = 0
  · exact step_0 w0 g d aN aE cN cE rg t A o aZ cZ w h hA ho ht h0
  by_cases h1 : o.kind = 1
  · exact step_1 w0 g d aN aE cN cE rg t A o aZ cZ w h hA ht h1
  by_cases h2 : o.kind = 2
  · exact step_2 w0 g d aN aE cN cE rg t A o aZ cZ w h hA ht h2
  exact step_x w0 g d aN aE cN cE rg t A o aZ cZ w h hA ho ht h0 h1 h2
end Euf
end Go.Proofs.Ytmnpefiaelpkfac
