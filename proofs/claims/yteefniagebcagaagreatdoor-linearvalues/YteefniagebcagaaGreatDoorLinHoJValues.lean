/- The walk of suretylaw03.LinearHolds; they prove no statement of the seat. -/
import Derived.Test.YteefniagebcagaaGreatDoorLinVlJValues
namespace Go.Proofs.YteefniagebcagaaGreatDoor
open Go.RowKit
set_option linter.unusedVariables false

/-- A sum's value. -/
def evl (a : List (Nat × Int)) (zs : List Int) : Int := a.foldr (fun p t => p.2 * zs.getD p.1 0 + t) 0
theorem evl_cons (p : Nat × Int) (a : List (Nat × Int)) (zs : List Int) : evl (p :: a) zs = p.2 * zs.getD p.1 0 + evl a zs := rfl
theorem evl_out : ∀ (a : List (Nat × Int)) (zs : List Int), (∀ p ∈ a, zs.length ≤ p.1) → evl a zs = 0
  | [], _, _ => rfl
  | p :: a, zs, h => by
    rw [evl_cons, evl_out a zs (fun q hq => h q (List.mem_cons_of_mem _ hq)), List.getD_eq_getElem?_getD, List.getElem?_eq_none (h p (List.mem_cons_self ..))]
    simp
theorem ats_evl : ∀ (a : List (Nat × Int)) (s : Int) (zs : List Int) (t : Int), Rise a → ats s a zs = some t → t = s + evl a zs
  | [], s, zs, t, _, h => by rw [ats] at h; injection h with h; simp [evl, h]
  | p :: a, s, zs, t, hr, h => by
    rw [ats] at h
    by_cases h1 : p.1 < zs.length
    · rw [if_pos h1] at h
      by_cases h2 : (p.2 * zs.getD p.1 0).natAbs < lim
      · rw [if_pos h2] at h
        by_cases h3 : (s + p.2 * zs.getD p.1 0).natAbs < lim
        · rw [if_pos h3] at h
          rw [ats_evl a _ zs t hr.tail h, evl_cons]
          omega
        · rw [if_neg h3] at h; cases h
      · rw [if_neg h2] at h; cases h
    · rw [if_neg h1] at h
      injection h with h
      rw [evl_out (p :: a) zs (fun q hq => by
        rcases List.mem_cons.1 hq with rfl | hq
        · omega
        · have := hr.head q hq; omega)]
      omega
theorem at_evl {a : List (Nat × Int)} {r : Int} {zs : List Int} (hr : Rise a) (h : atE a r zs = 0) : atZ a r zs = r + evl a zs := by
  unfold atE at h
  unfold atZ
  cases hs : ats r a zs with
  | none => rw [hs] at h; simp at h
  | some t => exact ats_evl a r zs t hr hs
theorem evl_mul (a : List (Nat × Int)) (k : Int) (zs : List Int) : evl (mulP a k) zs = evl a zs * k := by
  unfold mulP
  induction a with
  | nil => simp [evl]
  | cons p a ih => rw [List.map_cons, evl_cons, evl_cons, ih, Int.add_mul, Int.mul_right_comm]
theorem evl_div (a : List (Nat × Int)) (g : Int) (zs : List Int) (hg : g ≠ 0) (hd : ∀ p ∈ a, g ∣ p.2) : evl (divP a g) zs * g = evl a zs := by
  unfold divP
  induction a with
  | nil => simp [evl]
  | cons p a ih =>
    rw [List.map_cons, evl_cons, evl_cons, Int.add_mul, ih (fun q hq => hd q (List.mem_cons_of_mem _ hq)), Int.mul_right_comm, fdiv_dvd hg (hd p (List.mem_cons_self ..))]
theorem hBit_zero {e z m : Int} (h : e ≠ 0) : hBit e z m = false := by
  unfold hBit
  rw [show (e == 0) = false from beq_eq_false_iff_ne.2 h]; rfl
theorem hBit_is {a : List (Nat × Int)} {m : Int} {zs : List Int} (hr : Rise a) (h : atE a 0 zs = 0) : hBit (atE a 0 zs) (atZ a 0 zs) m = decide (evl a zs ≤ m) := by
  unfold hBit
  rw [at_evl hr h, h, Int.zero_add]; rfl
theorem hold_tight {a : List (Nat × Int)} {m : Int} {zs : List Int} (hf : Fine a) (h1 : atE a 0 zs = 0) (h2 : atE (tgP a) 0 zs = 0) : hBit (atE a 0 zs) (atZ a 0 zs) m = hBit (atE (tgP a) 0 zs) (atZ (tgP a) 0 zs) (tgM a m) := by
  by_cases hg : (cm a).natAbs < 2
  · rw [show tgP a = a from if_pos hg, show tgM a m = m from if_pos hg]
  · have hg0 : 0 < cm a := by have := cm_nonneg a; omega
    rw [show tgP a = divP a (cm a) from if_neg hg] at h2 ⊢
    rw [show tgM a m = m.fdiv (cm a) from if_neg hg, hBit_is hf.1 h1, hBit_is (divP_fine hf (by omega) (cm_dvd a)).1 h2, decide_eq_decide, ← evl_div a (cm a) zs (by omega) (cm_dvd a)]
    rw [Int.fdiv_eq_ediv_of_nonneg _ (by omega)]
    exact (Int.le_ediv_iff_mul_le hg0).symm
theorem hold_not {a : List (Nat × Int)} {m : Int} {zs : List Int} (hr : Rise a) (h1 : atE a 0 zs = 0) (h2 : atE (mulP a (-1)) 0 zs = 0) : hBit (atE a 0 zs) (atZ a 0 zs) m = !hBit (atE (mulP a (-1)) 0 zs) (atZ (mulP a (-1)) 0 zs) (-(m + 1)) := by
  rw [hBit_is hr h1, hBit_is (mulP_rise hr _) h2, evl_mul]
  by_cases h : evl a zs ≤ m
  · rw [decide_eq_true h, decide_eq_false (by omega)]; rfl
  · rw [decide_eq_false h, decide_eq_true (by omega)]; rfl
theorem lnot_h (v : Value) (a : List (Nat × Int)) (m : Int) (w : World) (hX : RowR w v a m) :
    Calls Tryz.prog 45 #[v] w fun e w' => ∃ p q r x b n c y d l f ps k co, e = .returned (.tuple #[.agg #[.slice p q r, .bool x, .slice b n c, .bool y, .slice d l f], .int .i64 co]) ∧ TP w' p q r x b n c ps 0 ∧ AInt w' (.agg #[.bool y, .slice d l f]) k ∧ Hid (co = 0 → ps = mulP a (-1) ∧ k = -(m + 1)) ∧ Below w.heap.size w w' := by
  refine (lnot_any v a m w hX).mono ?_
  rintro e w' ⟨u, k, rfl, hr, hb⟩
  rcases hr with ⟨_, rfl, hr⟩ | ⟨_, rfl, hr⟩
  · obtain ⟨p, q, r, x, b, n, c, y, d, l, f, rfl, h1, h2⟩ := hr
    exact ⟨p, q, r, x, b, n, c, y, d, l, f, _, _, _, rfl, h1, h2, fun _ => ⟨rfl, rfl⟩, hb⟩
  · obtain ⟨p, q, r, x, b, n, c, y, d, l, f, rfl, h1, h2⟩ := hr
    exact ⟨p, q, r, x, b, n, c, y, d, l, f, _, _, _, rfl, h1, h2, (fun h => by cases h), hb⟩
theorem holds_h (v : Value) (a : List (Nat × Int)) (m : Int) (vo : Option Addr) (k9 vc : Nat) (zs : List Int) (w : World) (hX : RowR w v a m) (hvl : zs.length = k9) (hva : Arr w vo zs) (hk9 : k9 ≤ 1000) :
    Calls Tryz.prog 49 #[v, .slice vo k9 vc] w fun e w' => ∃ b co, e = .returned (.tuple #[.bool b, .int .i64 co]) ∧ Hid (b = hBit (atE a 0 zs) (atZ a 0 zs) m ∧ co = atE a 0 zs) ∧ Below w.heap.size w w' := by
  refine (holds_any v a m vo k9 vc zs w hX hvl hva hk9).mono ?_
  rintro e w' ⟨rfl, hb⟩
  exact ⟨_, _, rfl, ⟨rfl, rfl⟩, hb⟩
theorem holds_fact {a : List (Nat × Int)} {m : Int} {zs : List Int} (hf : Fine a) {b1 b2 b3 : Bool} {e1 e2 e3 co k : Int} {ps : List (Nat × Int)} (h1 : b1 = hBit (atE a 0 zs) (atZ a 0 zs) m ∧ e1 = atE a 0 zs) (h2 : b2 = hBit (atE (tgP a) 0 zs) (atZ (tgP a) 0 zs) (tgM a m) ∧ e2 = atE (tgP a) 0 zs)
    (h3 : b3 = hBit (atE ps 0 zs) (atZ ps 0 zs) k ∧ e3 = atE ps 0 zs) (h4 : co = 0 → ps = mulP a (-1) ∧ k = -(m + 1)) : (e1 ≠ 0 → b1 = false) ∧ (e2 ≠ 0 → b2 = false) ∧ (e3 ≠ 0 → b3 = false) ∧ (e1 = 0 → e2 = 0 → e3 = 0 → co = 0 → b1 = b2 ∧ b1 = !b3) := by
  obtain ⟨rfl, rfl⟩ := h1
  obtain ⟨rfl, rfl⟩ := h2
  obtain ⟨rfl, rfl⟩ := h3
  refine ⟨fun h => hBit_zero h, fun h => hBit_zero h, fun h => hBit_zero h, fun k1 k2 k3 k4 => ?_⟩
  obtain ⟨rfl, rfl⟩ := h4 k4
  exact ⟨hold_tight hf k1 k2, hold_not hf.1 k1 k3⟩
theorem valZ_len (ss : List ByteArray) : (valZ ss).length ≤ 12 := by unfold valZ; rw [List.length_map, List.length_take]; omega

set_option maxRecDepth 20000 in
set_option maxHeartbeats 16000000 in
theorem linearHolds_any (aX : Option Addr) (nX cX : Nat) (S : ByteArray) (ms : List (Int × ByteArray)) (vo : Option Addr) (vn vc : Nat) (ss : List ByteArray) (w : World) (ht : Tab w) (hm : MArr w aX ms) (hl : ms.length = nX) (hs : SArr w vo ss) (hsn : ss.length = vn) (hvn : vn ≤ maxLen) :
    Calls Tryz.prog 7 #[.agg #[.slice aX nX cX, .string S], .slice vo vn vc] w fun e w' => e = .returned (.bool true) ∧ Below w.heap.size w w' := by
  have oX := (Blk.new w 79 #[.slice aX nX cX, .string S])
  have hbw : Below w.heap.size w (w.alloc (.cells #[.slice aX nX cX, .string S] 79 (0, 0))) := by go_grown
  have ltX := oX.lt
  have lwX : w.heap.size ≤ w.heap.size := by omega
  have HTB : Hid (Tab w) := ht
  have HM : Hid (MArr w aX ms) := hm
  have HLN : Hid (ms.length = nX) := hl
  have HSA : Hid (SArr w vo ss) := hs
  have HSN : Hid (ss.length = vn) := hsn
  have HVN : Hid (vn ≤ maxLen) := hvn
  clear ht hm hl hs hsn hvn
  go_enter Tryz.func7, Tryz.ntmps7
  go_wp2_with fail
  refine (awake3_any _ (HTB.out.below hbw)).mono ?_
  rintro e w1 ⟨rfl, hb⟩
  replace oX := oX.stay hb
  replace ltX := oX.lt
  replace hbw := hbw.step hb (Nat.le_refl _)
  clear hb
  obtain ⟨Xc0, Xc1, Xk0, Xk1⟩ := oX.two
  go_wp2_with fail
  refine (row_any aX nX cX S ms _ (HM.out.below hbw) HLN.out).mono ?_
  rintro e w2 ⟨aA, nA, cA, rfl, hnA, hMA, hb⟩
  clear Xc0 Xc1 Xk0 Xk1
  replace oX := oX.stay hb
  replace ltX := oX.lt
  replace hbw := hbw.step hb (Nat.le_refl _)
  clear hb
  go_wp2_with fail
  refine (lread_any aA nA cA (cutS S) (rowM ms) _ hMA hnA (fun h => rowM_size h) (by have := cutS_size S; omega)).mono ?_
  rintro e w3 ⟨_, rfl, ⟨pR, qR, rR, xR, aR, nR, cR, yR, dR, lR, fR, rfl, hR, hRm⟩, hb⟩
  replace oX := oX.stay hb
  replace ltX := oX.lt
  replace hMA := hMA.below hb
  replace hbw := hbw.step hb (Nat.le_refl _)
  clear hb
  generalize rdP (rowM ms) (cutS S) = ps at hR
  generalize rdM (rowM ms) (cutS S) = m0 at hRm
  generalize rdE (rowM ms) (cutS S) = co
  have hn := below_new w3 (.cells #[.slice pR qR rR, .bool xR, .slice aR nR cR, .bool yR, .slice dR lR fR] 82 (0, 0))
  have oR := Blk.new w3 82 #[.slice pR qR rR, .bool xR, .slice aR nR cR, .bool yR, .slice dR lR fR]
  have neXR : w.heap.size ≠ w3.heap.size := by have := ltX; (try simp at this); omega
  have lwR : w.heap.size ≤ w3.heap.size := by have := hbw.size; (try simp at this); omega
  replace oX := oX.stay hn
  replace ltX := oX.lt
  replace hMA := hMA.below hn
  replace hR := hR.below hn
  replace hRm := hRm.below hn
  replace hbw := hbw.step hn (Nat.le_refl _)
  clear hn
  have ltR := oR.lt
  by_cases hc : co = 0
  · subst hc
    have HF : Hid (Fine ps) := hR.fine
    go_wp2_with fail
    refine (values_any vo vn vc ss _ (HSA.out.below hbw) HSN.out HVN.out).mono ?_
    rintro e w4 ⟨a1, c1, a2, c2, k9, rfl, hk9, hA1, hA2, hb⟩
    replace oX := oX.stay hb
    replace ltX := oX.lt
    replace oR := oR.stay hb
    replace ltR := oR.lt
    replace hMA := hMA.below hb
    replace hR := hR.below hb
    replace hRm := hRm.below hb
    replace hbw := hbw.step hb (Nat.le_refl _)
    clear hb
    clear hA2
    have HK9 : Hid ((valZ ss).length = k9) := hk9
    have HK8 : Hid (k9 ≤ 1000) := by show _ ≤ _; rw [← hk9]; exact Nat.le_trans (valZ_len ss) (by decide)
    clear hk9
    obtain ⟨Rc0, Rc1, Rc2, Rc3, Rc4⟩ := oR.five
    obtain ⟨Rk0, Rk1, Rk2, Rk3, Rk4⟩ := oR.frozen5
    go_wp2_with fail
    refine (lnot_h _ ps m0 _ ⟨_, _, _, _, _, _, _, _, _, _, _, rfl, hR, hRm⟩).mono ?_
    rintro e w5 ⟨pN, qN, rN, xN, aN, nN, cN, yN, dN, lN, fN, qs, k0, cn, rfl, hN, hNm, HN, hb⟩
    clear Rc0 Rc1 Rc2 Rc3 Rc4 Rk0 Rk1 Rk2 Rk3 Rk4
    replace oX := oX.stay hb
    replace ltX := oX.lt
    replace oR := oR.stay hb
    replace ltR := oR.lt
    replace hMA := hMA.below hb
    replace hR := hR.below hb
    replace hRm := hRm.below hb
    replace hA1 := hA1.below hb
    replace hbw := hbw.step hb (Nat.le_refl _)
    clear hb
    have hn := below_new w5 (.cells #[.slice pN qN rN, .bool xN, .slice aN nN cN, .bool yN, .slice dN lN fN] 82 (0, 0))
    have oN := Blk.new w5 82 #[.slice pN qN rN, .bool xN, .slice aN nN cN, .bool yN, .slice dN lN fN]
    have neXN : w.heap.size ≠ w5.heap.size := by have := ltX; (try simp at this); omega
    have neRN : w3.heap.size ≠ w5.heap.size := by have := ltR; (try simp at this); omega
    have lwN : w.heap.size ≤ w5.heap.size := by have := hbw.size; (try simp at this); omega
    replace oX := oX.stay hn
    replace ltX := oX.lt
    replace oR := oR.stay hn
    replace ltR := oR.lt
    replace hMA := hMA.below hn
    replace hR := hR.below hn
    replace hRm := hRm.below hn
    replace hA1 := hA1.below hn
    replace hN := hN.below hn
    replace hNm := hNm.below hn
    replace hbw := hbw.step hn (Nat.le_refl _)
    clear hn
    have ltN := oN.lt
    obtain ⟨Rc0, Rc1, Rc2, Rc3, Rc4⟩ := oR.five
    obtain ⟨Rk0, Rk1, Rk2, Rk3, Rk4⟩ := oR.frozen5
    go_wp2_with fail
    refine (holds_h _ ps m0 a1 k9 c1 (valZ ss) _ ⟨_, _, _, _, _, _, _, _, _, _, _, rfl, hR, hRm⟩ HK9.out hA1 HK8.out).mono ?_
    rintro e w6 ⟨b1, e1, rfl, H1, hb⟩
    clear Rc0 Rc1 Rc2 Rc3 Rc4 Rk0 Rk1 Rk2 Rk3 Rk4
    replace oX := oX.stay hb
    replace ltX := oX.lt
    replace oR := oR.stay hb
    replace ltR := oR.lt
    replace oN := oN.stay hb
    replace ltN := oN.lt
    replace hMA := hMA.below hb
    replace hR := hR.below hb
    replace hRm := hRm.below hb
    replace hA1 := hA1.below hb
    replace hN := hN.below hb
    replace hNm := hNm.below hb
    replace hbw := hbw.step hb (Nat.le_refl _)
    clear hb
    obtain ⟨Rc0, Rc1, Rc2, Rc3, Rc4⟩ := oR.five
    obtain ⟨Rk0, Rk1, Rk2, Rk3, Rk4⟩ := oR.frozen5
    go_wp2_with fail
    refine (tight_any _ ps m0 _ ⟨_, _, _, _, _, _, _, _, _, _, _, rfl, hR, hRm⟩).mono ?_
    rintro e w7 ⟨_, rfl, ⟨pT, qT, rT, xT, aT, nT, cT, yT, dT, lT, fT, rfl, hT, hTm⟩, hb⟩
    clear Rc0 Rc1 Rc2 Rc3 Rc4 Rk0 Rk1 Rk2 Rk3 Rk4
    replace oX := oX.stay hb
    replace ltX := oX.lt
    replace oR := oR.stay hb
    replace ltR := oR.lt
    replace oN := oN.stay hb
    replace ltN := oN.lt
    replace hMA := hMA.below hb
    replace hR := hR.below hb
    replace hRm := hRm.below hb
    replace hA1 := hA1.below hb
    replace hN := hN.below hb
    replace hNm := hNm.below hb
    replace hbw := hbw.step hb (Nat.le_refl _)
    clear hb
    go_wp2_with fail
    refine (holds_h _ (tgP ps) (tgM ps m0) a1 k9 c1 (valZ ss) _ ⟨_, _, _, _, _, _, _, _, _, _, _, rfl, hT, hTm⟩ HK9.out hA1 HK8.out).mono ?_
    rintro e w8 ⟨b2, e2, rfl, H2, hb⟩
    replace oX := oX.stay hb
    replace ltX := oX.lt
    replace oR := oR.stay hb
    replace ltR := oR.lt
    replace oN := oN.stay hb
    replace ltN := oN.lt
    replace hMA := hMA.below hb
    replace hR := hR.below hb
    replace hRm := hRm.below hb
    replace hA1 := hA1.below hb
    replace hN := hN.below hb
    replace hNm := hNm.below hb
    replace hT := hT.below hb
    replace hTm := hTm.below hb
    replace hbw := hbw.step hb (Nat.le_refl _)
    clear hb
    obtain ⟨Nc0, Nc1, Nc2, Nc3, Nc4⟩ := oN.five
    obtain ⟨Nk0, Nk1, Nk2, Nk3, Nk4⟩ := oN.frozen5
    go_wp2_with fail
    refine (holds_h _ qs k0 a1 k9 c1 (valZ ss) _ ⟨_, _, _, _, _, _, _, _, _, _, _, rfl, hN, hNm⟩ HK9.out hA1 HK8.out).mono ?_
    rintro e w9 ⟨b3, e3, rfl, H3, hb⟩
    clear Nc0 Nc1 Nc2 Nc3 Nc4 Nk0 Nk1 Nk2 Nk3 Nk4
    replace oX := oX.stay hb
    replace ltX := oX.lt
    replace oR := oR.stay hb
    replace ltR := oR.lt
    replace oN := oN.stay hb
    replace ltN := oN.lt
    replace hMA := hMA.below hb
    replace hR := hR.below hb
    replace hRm := hRm.below hb
    replace hA1 := hA1.below hb
    replace hN := hN.below hb
    replace hNm := hNm.below hb
    replace hT := hT.below hb
    replace hTm := hTm.below hb
    replace hbw := hbw.step hb (Nat.le_refl _)
    clear hb
    obtain ⟨f1, f2, f3, f4⟩ := holds_fact HF.out H1.out H2.out H3.out HN.out
    clear hR hRm hN hNm hT hTm hA1 H1 H2 H3 HN
    have key : ∀ e : Int, e = 0 ∨ (e != 0) = true := fun e => by by_cases h : e = 0; (exact Or.inl h); (exact Or.inr (bne_iff_ne.2 h))
    rcases key e1 with rfl | g1
    · rcases key e2 with rfl | g2
      · rcases key e3 with rfl | g3
        · rcases key cn with rfl | g4
          · obtain ⟨rfl, h9⟩ := f4 rfl rfl rfl rfl
            cases b3
            · subst h9; (clear f1 f2 f3 f4 key; go_wp2; go_ret; exact ⟨rfl, hbw⟩)
            · subst h9; (clear f1 f2 f3 f4 key; go_wp2; go_ret; exact ⟨rfl, hbw⟩)
          · (clear f1 f2 f3 f4 key; go_wp2; go_ret; exact ⟨rfl, hbw⟩)
        · obtain rfl := f3 (bne_iff_ne.1 g3)
          rcases key cn with rfl | g4
          · (clear f1 f2 f3 f4 key; go_wp2; go_ret; exact ⟨rfl, hbw⟩)
          · (clear f1 f2 f3 f4 key; go_wp2; go_ret; exact ⟨rfl, hbw⟩)
      · obtain rfl := f2 (bne_iff_ne.1 g2)
        rcases key e3 with rfl | g3
        · rcases key cn with rfl | g4
          · (clear f1 f2 f3 f4 key; go_wp2; go_ret; exact ⟨rfl, hbw⟩)
          · (clear f1 f2 f3 f4 key; go_wp2; go_ret; exact ⟨rfl, hbw⟩)
        · obtain rfl := f3 (bne_iff_ne.1 g3)
          rcases key cn with rfl | g4
          · (clear f1 f2 f3 f4 key; go_wp2; go_ret; exact ⟨rfl, hbw⟩)
          · (clear f1 f2 f3 f4 key; go_wp2; go_ret; exact ⟨rfl, hbw⟩)
    · obtain rfl := f1 (bne_iff_ne.1 g1)
      rcases key e2 with rfl | g2
      · skip
        rcases key e3 with rfl | g3
        · rcases key cn with rfl | g4
          · (clear f1 f2 f3 f4 key; go_wp2; go_ret; exact ⟨rfl, hbw⟩)
          · (clear f1 f2 f3 f4 key; go_wp2; go_ret; exact ⟨rfl, hbw⟩)
        · obtain rfl := f3 (bne_iff_ne.1 g3)
          rcases key cn with rfl | g4
          · (clear f1 f2 f3 f4 key; go_wp2; go_ret; exact ⟨rfl, hbw⟩)
          · (clear f1 f2 f3 f4 key; go_wp2; go_ret; exact ⟨rfl, hbw⟩)
      · obtain rfl := f2 (bne_iff_ne.1 g2)
        rcases key e3 with rfl | g3
        · rcases key cn with rfl | g4
          · (clear f1 f2 f3 f4 key; go_wp2; go_ret; exact ⟨rfl, hbw⟩)
          · (clear f1 f2 f3 f4 key; go_wp2; go_ret; exact ⟨rfl, hbw⟩)
        · obtain rfl := f3 (bne_iff_ne.1 g3)
          rcases key cn with rfl | g4
          · (clear f1 f2 f3 f4 key; go_wp2; go_ret; exact ⟨rfl, hbw⟩)
          · (clear f1 f2 f3 f4 key; go_wp2; go_ret; exact ⟨rfl, hbw⟩)
  · have hc2 : (co != 0) = true := by rw [bne_iff_ne]; exact hc
    clear hc
    go_wp2
    go_ret
    exact ⟨rfl, hbw⟩

end Go.Proofs.YteefniagebcagaaGreatDoor
