/- The walk of suretylaw03.LinearCancels; they prove no statement of the seat. -/
import Derived.Test.YteefniagebcagabGreatDoorLinHxJCancels
import Derived.Test.YteefniagebcagabGreatDoorLinSmJCancels
namespace Go.Proofs.YteefniagebcagabGreatDoor
open Go.RowKit
set_option linter.unusedVariables false

set_option maxRecDepth 20000 in
set_option maxHeartbeats 32000000 in
theorem linearCancels_any (aX : Option Addr) (nX cX : Nat) (ms : List (Int × ByteArray)) (aY : Option Addr) (nY cY : Nat) (ls : List (Int × ByteArray)) (v : Int) (w : World) (ht : Tab w) (hm : MArr w aX ms) (hl : ms.length = nX) (hx : nX ≤ maxLen) (hm2 : MArr w aY ls) (hl2 : ls.length = nY) (hy : nY ≤ maxLen) :
    Calls Tryz.prog 5 #[.slice aX nX cX, .slice aY nY cY, .int .i64 v] w fun e w' => e = .returned (.bool true) ∧ Below w.heap.size w w' := by
  have HTB : Hid (Tab w) := ht
  have HM : Hid (MArr w aX ms) := hm
  have HLN : Hid (ms.length = nX) := hl
  have HXN : Hid (nX ≤ maxLen) := hx
  have HM2 : Hid (MArr w aY ls) := hm2
  have HLN2 : Hid (ls.length = nY) := hl2
  have HYN : Hid (nY ≤ maxLen) := hy
  clear ht hm hl hx hm2 hl2 hy
  have hbw := Below.refl w.heap.size w
  go_enter Tryz.func5, Tryz.ntmps5
  go_wp2_with fail
  refine (awake3_any _ (HTB.out.below hbw)).mono ?_
  rintro e w1 ⟨rfl, hb⟩
  replace hbw := hbw.step hb (Nat.le_refl _)
  clear hb
  go_wp2_with fail
  refine (few_any aX nX cX ms _ (HM.out.below hbw) HLN.out HXN.out).mono ?_
  rintro e w2 ⟨aA0, nA0, cA0, rfl, hnA0, hmA0, hb⟩
  replace hbw := hbw.step hb (Nat.le_refl _)
  clear hb
  go_wp2_with fail
  refine (term_any aA0 nA0 cA0 (fewM ms) _ hmA0 hnA0 (by rw [← hnA0]; have := fewM_len ms; unfold maxLen; omega) (fewM_size ms)).mono ?_
  rintro e w3 ⟨_, ps, r, ok, rfl, ⟨pA, qA, rA, xA, aA, nA, cA, rfl, hA⟩, HT, hb⟩
  replace hmA0 := hmA0.below hb
  replace hbw := hbw.step hb (Nat.le_refl _)
  clear hb
  clear hmA0 hnA0
  have hn := below_new w3 (.cells #[.slice pA qA rA, .bool xA, .slice aA nA cA] 30 (0, 0))
  have oA := Blk.new w3 30 #[.slice pA qA rA, .bool xA, .slice aA nA cA]
  have lwA : w.heap.size ≤ w3.heap.size := by have := hbw.size; (try simp at this); omega
  replace hA := hA.below hn
  replace hbw := hbw.step hn (Nat.le_refl _)
  clear hn
  have ltA := oA.lt
  go_wp2_with fail
  refine (few_any aY nY cY ls _ (HM2.out.below hbw) HLN2.out HYN.out).mono ?_
  rintro e w4 ⟨aB0, nB0, cB0, rfl, hnB0, hmB0, hb⟩
  replace oA := oA.stay hb
  replace ltA := oA.lt
  replace hA := hA.below hb
  replace hbw := hbw.step hb (Nat.le_refl _)
  clear hb
  go_wp2_with fail
  refine (term_any aB0 nB0 cB0 (fewM ls) _ hmB0 hnB0 (by rw [← hnB0]; have := fewM_len ls; unfold maxLen; omega) (fewM_size ls)).mono ?_
  rintro e w5 ⟨_, qs, t, ok2, rfl, ⟨pB, qB, rB, xB, aB, nB, cB, rfl, hB⟩, HT2, hb⟩
  replace oA := oA.stay hb
  replace ltA := oA.lt
  replace hA := hA.below hb
  replace hmB0 := hmB0.below hb
  replace hbw := hbw.step hb (Nat.le_refl _)
  clear hb
  clear hmB0 hnB0
  have hn := below_new w5 (.cells #[.slice pB qB rB, .bool xB, .slice aB nB cB] 30 (0, 0))
  have oB := Blk.new w5 30 #[.slice pB qB rB, .bool xB, .slice aB nB cB]
  have neAB : w3.heap.size ≠ w5.heap.size := by have := ltA; (try simp at this); omega
  have lwB : w.heap.size ≤ w5.heap.size := by have := hbw.size; (try simp at this); omega
  replace oA := oA.stay hn
  replace ltA := oA.lt
  replace hA := hA.below hn
  replace hB := hB.below hn
  replace hbw := hbw.step hn (Nat.le_refl _)
  clear hn
  have ltB := oB.lt
  clear HT HT2
  cases ok
  · go_wp2
    go_ret
    exact ⟨rfl, hbw⟩
  · cases ok2
    · go_wp2
      go_ret
      exact ⟨rfl, hbw⟩
    · have HF : Hid (Fine ps) := hA.fine
      have HG : Hid (Fine qs) := hB.fine
      obtain ⟨Ac0, Ac1, Ac2⟩ := oA.three
      obtain ⟨Ak0, Ak1, Ak2⟩ := oA.frozen3
      go_wp2_with fail
      refine (sub_self _ ps r _ hA.val HF.out).mono ?_
      rintro e w6 ⟨pZ, qZ, rZ, xZ, aZ, nZ, cZ, rfl, hZ, hb⟩
      clear Ac0 Ac1 Ac2 Ak0 Ak1 Ak2
      replace oA := oA.stay hb
      replace ltA := oA.lt
      replace oB := oB.stay hb
      replace ltB := oB.lt
      replace hA := hA.below hb
      replace hB := hB.below hb
      replace hbw := hbw.step hb (Nat.le_refl _)
      clear hb
      have hn := below_new w6 (.cells #[.slice pZ qZ rZ, .bool xZ, .slice aZ nZ cZ] 30 (0, 0))
      have oZ := Blk.new w6 30 #[.slice pZ qZ rZ, .bool xZ, .slice aZ nZ cZ]
      have neAZ : w3.heap.size ≠ w6.heap.size := by have := ltA; (try simp at this); omega
      have neBZ : w5.heap.size ≠ w6.heap.size := by have := ltB; (try simp at this); omega
      have lwZ : w.heap.size ≤ w6.heap.size := by have := hbw.size; (try simp at this); omega
      replace oA := oA.stay hn
      replace ltA := oA.lt
      replace oB := oB.stay hn
      replace ltB := oB.lt
      replace hA := hA.below hn
      replace hB := hB.below hn
      replace hZ := hZ.below hn
      replace hbw := hbw.step hn (Nat.le_refl _)
      clear hn
      have ltZ := oZ.lt
      obtain ⟨Zc0, Zc1, Zc2⟩ := oZ.three
      obtain ⟨Zk0, Zk1, Zk2⟩ := oZ.frozen3
      go_wp2_with fail
      refine (isNum_any _ [] 0 _ hZ.val).mono ?_
      rintro e w7 ⟨rfl, hb⟩
      clear Zc0 Zc1 Zc2 Zk0 Zk1 Zk2
      replace oA := oA.stay hb
      replace ltA := oA.lt
      replace oB := oB.stay hb
      replace ltB := oB.lt
      replace oZ := oZ.stay hb
      replace ltZ := oZ.lt
      replace hA := hA.below hb
      replace hB := hB.below hb
      replace hZ := hZ.below hb
      replace hbw := hbw.step hb (Nat.le_refl _)
      clear hb
      obtain ⟨Zc0, Zc1, Zc2⟩ := oZ.three
      obtain ⟨Zk0, Zk1, Zk2⟩ := oZ.frozen3
      go_wp2_with fail
      refine (lrest_any _ [] 0 _ hZ.val).mono ?_
      rintro e w8 ⟨xQ, aQ, nQ, cQ, rfl, hQ, hb⟩
      clear Zc0 Zc1 Zc2 Zk0 Zk1 Zk2
      replace oA := oA.stay hb
      replace ltA := oA.lt
      replace oB := oB.stay hb
      replace ltB := oB.lt
      replace oZ := oZ.stay hb
      replace ltZ := oZ.lt
      replace hA := hA.below hb
      replace hB := hB.below hb
      replace hZ := hZ.below hb
      replace hbw := hbw.step hb (Nat.le_refl _)
      clear hb
      go_wp2_with fail
      refine (sign_h _ 0 _ hQ).mono ?_
      rintro e w9 ⟨rfl, hb⟩
      replace oA := oA.stay hb
      replace ltA := oA.lt
      replace oB := oB.stay hb
      replace ltB := oB.lt
      replace oZ := oZ.stay hb
      replace ltZ := oZ.lt
      replace hA := hA.below hb
      replace hB := hB.below hb
      replace hZ := hZ.below hb
      replace hQ := hQ.below hb
      replace hbw := hbw.step hb (Nat.le_refl _)
      clear hb
      obtain ⟨Ac0, Ac1, Ac2⟩ := oA.three
      obtain ⟨Ak0, Ak1, Ak2⟩ := oA.frozen3
      obtain ⟨Bc0, Bc1, Bc2⟩ := oB.three
      obtain ⟨Bk0, Bk1, Bk2⟩ := oB.frozen3
      go_wp2_with fail
      refine (add_x _ _ ps qs r t _ hA.val hB.val).mono ?_
      rintro e w10 ⟨pS, qS, rS, xS, aS, nS, cS, ss, s0, co, rfl, hS, H1, hb⟩
      clear Ac0 Ac1 Ac2 Ak0 Ak1 Ak2
      clear Bc0 Bc1 Bc2 Bk0 Bk1 Bk2
      replace oA := oA.stay hb
      replace ltA := oA.lt
      replace oB := oB.stay hb
      replace ltB := oB.lt
      replace oZ := oZ.stay hb
      replace ltZ := oZ.lt
      replace hA := hA.below hb
      replace hB := hB.below hb
      replace hZ := hZ.below hb
      replace hQ := hQ.below hb
      replace hbw := hbw.step hb (Nat.le_refl _)
      clear hb
      have hn := below_new w10 (.cells #[.slice pS qS rS, .bool xS, .slice aS nS cS] 30 (0, 0))
      have oS := Blk.new w10 30 #[.slice pS qS rS, .bool xS, .slice aS nS cS]
      have neAS : w3.heap.size ≠ w10.heap.size := by have := ltA; (try simp at this); omega
      have neBS : w5.heap.size ≠ w10.heap.size := by have := ltB; (try simp at this); omega
      have neZS : w6.heap.size ≠ w10.heap.size := by have := ltZ; (try simp at this); omega
      have lwS : w.heap.size ≤ w10.heap.size := by have := hbw.size; (try simp at this); omega
      replace oA := oA.stay hn
      replace ltA := oA.lt
      replace oB := oB.stay hn
      replace ltB := oB.lt
      replace oZ := oZ.stay hn
      replace ltZ := oZ.lt
      replace hA := hA.below hn
      replace hB := hB.below hn
      replace hZ := hZ.below hn
      replace hQ := hQ.below hn
      replace hS := hS.below hn
      replace hbw := hbw.step hn (Nat.le_refl _)
      clear hn
      have ltS := oS.lt
      obtain ⟨Sc0, Sc1, Sc2⟩ := oS.three
      obtain ⟨Sk0, Sk1, Sk2⟩ := oS.frozen3
      obtain ⟨Bc0, Bc1, Bc2⟩ := oB.three
      obtain ⟨Bk0, Bk1, Bk2⟩ := oB.frozen3
      go_wp2_with fail
      refine (sub_x _ _ ss qs s0 t _ hS.val hB.val).mono ?_
      rintro e w11 ⟨pD, qD, rD, xD, aD, nD, cD, ds, d0, c2, rfl, hD, H2, hb⟩
      clear Sc0 Sc1 Sc2 Sk0 Sk1 Sk2
      clear Bc0 Bc1 Bc2 Bk0 Bk1 Bk2
      replace oA := oA.stay hb
      replace ltA := oA.lt
      replace oB := oB.stay hb
      replace ltB := oB.lt
      replace oZ := oZ.stay hb
      replace ltZ := oZ.lt
      replace oS := oS.stay hb
      replace ltS := oS.lt
      replace hA := hA.below hb
      replace hB := hB.below hb
      replace hZ := hZ.below hb
      replace hQ := hQ.below hb
      replace hS := hS.below hb
      replace hbw := hbw.step hb (Nat.le_refl _)
      clear hb
      have hn := below_new w11 (.cells #[.slice pD qD rD, .bool xD, .slice aD nD cD] 30 (0, 0))
      have oD := Blk.new w11 30 #[.slice pD qD rD, .bool xD, .slice aD nD cD]
      have neAD : w3.heap.size ≠ w11.heap.size := by have := ltA; (try simp at this); omega
      have neBD : w5.heap.size ≠ w11.heap.size := by have := ltB; (try simp at this); omega
      have neZD : w6.heap.size ≠ w11.heap.size := by have := ltZ; (try simp at this); omega
      have neSD : w10.heap.size ≠ w11.heap.size := by have := ltS; (try simp at this); omega
      have lwD : w.heap.size ≤ w11.heap.size := by have := hbw.size; (try simp at this); omega
      replace oA := oA.stay hn
      replace ltA := oA.lt
      replace oB := oB.stay hn
      replace ltB := oB.lt
      replace oZ := oZ.stay hn
      replace ltZ := oZ.lt
      replace oS := oS.stay hn
      replace ltS := oS.lt
      replace hA := hA.below hn
      replace hB := hB.below hn
      replace hZ := hZ.below hn
      replace hQ := hQ.below hn
      replace hS := hS.below hn
      replace hD := hD.below hn
      replace hbw := hbw.step hn (Nat.le_refl _)
      clear hn
      have ltD := oD.lt
      have f1 : co = 0 → c2 = 0 → decide (ds = ps ∧ d0 = r) = true := fun h1 h2 => by
        obtain ⟨k1, rfl, rfl⟩ := H1.out h1
        obtain ⟨k2, rfl, rfl⟩ := H2.out.1 h2
        exact decide_eq_true ⟨add_sub HF.out HG.out k1.2 k2.2, by omega⟩
      clear H1 H2
      have key : ∀ e : Int, e = 0 ∨ (e == 0) = false := fun e => by by_cases h : e = 0; (exact Or.inl h); (exact Or.inr (beq_eq_false_iff_ne.2 h))
      rcases key co with rfl | g1
      · rcases key c2 with rfl | g2
        · have f2 := f1 rfl rfl
          clear f1 key
          obtain ⟨Dc0, Dc1, Dc2⟩ := oD.three
          obtain ⟨Dk0, Dk1, Dk2⟩ := oD.frozen3
          obtain ⟨Ac0, Ac1, Ac2⟩ := oA.three
          obtain ⟨Ak0, Ak1, Ak2⟩ := oA.frozen3
          go_wp2_with fail
          refine (lsame_any _ _ ds ps d0 r _ hD.val hA.val).mono ?_
          rintro e w12 ⟨rfl, hb⟩
          clear Dc0 Dc1 Dc2 Dk0 Dk1 Dk2
          clear Ac0 Ac1 Ac2 Ak0 Ak1 Ak2
          replace oA := oA.stay hb
          replace ltA := oA.lt
          replace oB := oB.stay hb
          replace ltB := oB.lt
          replace oZ := oZ.stay hb
          replace ltZ := oZ.lt
          replace oS := oS.stay hb
          replace ltS := oS.lt
          replace oD := oD.stay hb
          replace ltD := oD.lt
          replace hA := hA.below hb
          replace hB := hB.below hb
          replace hZ := hZ.below hb
          replace hQ := hQ.below hb
          replace hS := hS.below hb
          replace hD := hD.below hb
          replace hbw := hbw.step hb (Nat.le_refl _)
          clear hb
          obtain ⟨Ac0, Ac1, Ac2⟩ := oA.three
          obtain ⟨Ak0, Ak1, Ak2⟩ := oA.frozen3
          obtain ⟨Bc0, Bc1, Bc2⟩ := oB.three
          obtain ⟨Bk0, Bk1, Bk2⟩ := oB.frozen3
          go_wp2_with fail
          refine (put_x _ _ ps qs r t v _ hA.val hB.val).mono ?_
          rintro e w13 ⟨pP, qP, rP, xP, aP, nP, cP, us, p0, c3, rfl, hP, H3, hb⟩
          clear Ac0 Ac1 Ac2 Ak0 Ak1 Ak2
          clear Bc0 Bc1 Bc2 Bk0 Bk1 Bk2
          replace oA := oA.stay hb
          replace ltA := oA.lt
          replace oB := oB.stay hb
          replace ltB := oB.lt
          replace oZ := oZ.stay hb
          replace ltZ := oZ.lt
          replace oS := oS.stay hb
          replace ltS := oS.lt
          replace oD := oD.stay hb
          replace ltD := oD.lt
          replace hA := hA.below hb
          replace hB := hB.below hb
          replace hZ := hZ.below hb
          replace hQ := hQ.below hb
          replace hS := hS.below hb
          replace hD := hD.below hb
          replace hbw := hbw.step hb (Nat.le_refl _)
          clear hb
          have hn := below_new w13 (.cells #[.slice pP qP rP, .bool xP, .slice aP nP cP] 30 (0, 0))
          have oP := Blk.new w13 30 #[.slice pP qP rP, .bool xP, .slice aP nP cP]
          have neAP : w3.heap.size ≠ w13.heap.size := by have := ltA; (try simp at this); omega
          have neBP : w5.heap.size ≠ w13.heap.size := by have := ltB; (try simp at this); omega
          have neZP : w6.heap.size ≠ w13.heap.size := by have := ltZ; (try simp at this); omega
          have neSP : w10.heap.size ≠ w13.heap.size := by have := ltS; (try simp at this); omega
          have neDP : w11.heap.size ≠ w13.heap.size := by have := ltD; (try simp at this); omega
          have lwP : w.heap.size ≤ w13.heap.size := by have := hbw.size; (try simp at this); omega
          replace oA := oA.stay hn
          replace ltA := oA.lt
          replace oB := oB.stay hn
          replace ltB := oB.lt
          replace oZ := oZ.stay hn
          replace ltZ := oZ.lt
          replace oS := oS.stay hn
          replace ltS := oS.lt
          replace oD := oD.stay hn
          replace ltD := oD.lt
          replace hA := hA.below hn
          replace hB := hB.below hn
          replace hZ := hZ.below hn
          replace hQ := hQ.below hn
          replace hS := hS.below hn
          replace hD := hD.below hn
          replace hP := hP.below hn
          replace hbw := hbw.step hn (Nat.le_refl _)
          clear hn
          have ltP := oP.lt
          by_cases h3 : c3 = 0
          · subst h3
            obtain ⟨rfl, rfl⟩ := H3.out rfl
            clear H3
            obtain ⟨Bc0, Bc1, Bc2⟩ := oB.three
            obtain ⟨Bk0, Bk1, Bk2⟩ := oB.frozen3
            go_wp2_with fail
            refine (lcoef_any _ qs t v _ hB.val).mono ?_
            rintro e w14 ⟨xC, aC, nC, cC, rfl, hC, hb⟩
            clear Bc0 Bc1 Bc2 Bk0 Bk1 Bk2
            replace oA := oA.stay hb
            replace ltA := oA.lt
            replace oB := oB.stay hb
            replace ltB := oB.lt
            replace oZ := oZ.stay hb
            replace ltZ := oZ.lt
            replace oS := oS.stay hb
            replace ltS := oS.lt
            replace oD := oD.stay hb
            replace ltD := oD.lt
            replace oP := oP.stay hb
            replace ltP := oP.lt
            replace hA := hA.below hb
            replace hB := hB.below hb
            replace hZ := hZ.below hb
            replace hQ := hQ.below hb
            replace hS := hS.below hb
            replace hD := hD.below hb
            replace hP := hP.below hb
            replace hbw := hbw.step hb (Nat.le_refl _)
            clear hb
            go_wp2_with fail
            refine (sign_h _ (coefZ qs v) _ hC).mono ?_
            rintro e w15 ⟨rfl, hb⟩
            replace oA := oA.stay hb
            replace ltA := oA.lt
            replace oB := oB.stay hb
            replace ltB := oB.lt
            replace oZ := oZ.stay hb
            replace ltZ := oZ.lt
            replace oS := oS.stay hb
            replace ltS := oS.lt
            replace oD := oD.stay hb
            replace ltD := oD.lt
            replace oP := oP.stay hb
            replace ltP := oP.lt
            replace hA := hA.below hb
            replace hB := hB.below hb
            replace hZ := hZ.below hb
            replace hQ := hQ.below hb
            replace hS := hS.below hb
            replace hD := hD.below hb
            replace hP := hP.below hb
            replace hC := hC.below hb
            replace hbw := hbw.step hb (Nat.le_refl _)
            clear hb
            by_cases h4 : coefZ qs v = 0
            · have hs : (coefZ qs v).sign = 0 := by rw [h4]; rfl
              have HE : Hid (coefZ (putP ps v qs) v = 0) := put_gone HF.out HG.out h4
              clear h4
              obtain ⟨Pc0, Pc1, Pc2⟩ := oP.three
              obtain ⟨Pk0, Pk1, Pk2⟩ := oP.frozen3
              go_wp2_with fail
              refine (lcoef_any _ _ _ v _ hP.val).mono ?_
              rintro e w16 ⟨xE, aE, nE, cE, rfl, hE, hb⟩
              clear Pc0 Pc1 Pc2 Pk0 Pk1 Pk2
              replace oA := oA.stay hb
              replace ltA := oA.lt
              replace oB := oB.stay hb
              replace ltB := oB.lt
              replace oZ := oZ.stay hb
              replace ltZ := oZ.lt
              replace oS := oS.stay hb
              replace ltS := oS.lt
              replace oD := oD.stay hb
              replace ltD := oD.lt
              replace oP := oP.stay hb
              replace ltP := oP.lt
              replace hA := hA.below hb
              replace hB := hB.below hb
              replace hZ := hZ.below hb
              replace hQ := hQ.below hb
              replace hS := hS.below hb
              replace hD := hD.below hb
              replace hP := hP.below hb
              replace hC := hC.below hb
              replace hbw := hbw.step hb (Nat.le_refl _)
              clear hb
              rw [HE.out] at hE
              go_wp2_with fail
              refine (sign_h _ 0 _ hE).mono ?_
              rintro e w17 ⟨rfl, hb⟩
              replace oA := oA.stay hb
              replace ltA := oA.lt
              replace oB := oB.stay hb
              replace ltB := oB.lt
              replace oZ := oZ.stay hb
              replace ltZ := oZ.lt
              replace oS := oS.stay hb
              replace ltS := oS.lt
              replace oD := oD.stay hb
              replace ltD := oD.lt
              replace oP := oP.stay hb
              replace ltP := oP.lt
              replace hA := hA.below hb
              replace hB := hB.below hb
              replace hZ := hZ.below hb
              replace hQ := hQ.below hb
              replace hS := hS.below hb
              replace hD := hD.below hb
              replace hP := hP.below hb
              replace hC := hC.below hb
              replace hE := hE.below hb
              replace hbw := hbw.step hb (Nat.le_refl _)
              clear hb
              go_wp2
              go_ret
              exact ⟨rfl, hbw⟩
            · have hs : ((coefZ qs v).sign != 0) = true := by rw [bne_iff_ne]; exact fun k => h4 (Int.sign_eq_zero_iff_zero.1 k)
              clear h4
              go_wp2
              go_ret
              exact ⟨rfl, hbw⟩
          · have h3b : (c3 != 0) = true := by rw [bne_iff_ne]; exact h3
            clear h3 H3
            go_wp2
            go_ret
            exact ⟨rfl, hbw⟩
        · clear f1 key
          obtain ⟨Ac0, Ac1, Ac2⟩ := oA.three
          obtain ⟨Ak0, Ak1, Ak2⟩ := oA.frozen3
          obtain ⟨Bc0, Bc1, Bc2⟩ := oB.three
          obtain ⟨Bk0, Bk1, Bk2⟩ := oB.frozen3
          go_wp2_with fail
          refine (put_x _ _ ps qs r t v _ hA.val hB.val).mono ?_
          rintro e w12 ⟨pP, qP, rP, xP, aP, nP, cP, us, p0, c3, rfl, hP, H3, hb⟩
          clear Ac0 Ac1 Ac2 Ak0 Ak1 Ak2
          clear Bc0 Bc1 Bc2 Bk0 Bk1 Bk2
          replace oA := oA.stay hb
          replace ltA := oA.lt
          replace oB := oB.stay hb
          replace ltB := oB.lt
          replace oZ := oZ.stay hb
          replace ltZ := oZ.lt
          replace oS := oS.stay hb
          replace ltS := oS.lt
          replace oD := oD.stay hb
          replace ltD := oD.lt
          replace hA := hA.below hb
          replace hB := hB.below hb
          replace hZ := hZ.below hb
          replace hQ := hQ.below hb
          replace hS := hS.below hb
          replace hD := hD.below hb
          replace hbw := hbw.step hb (Nat.le_refl _)
          clear hb
          have hn := below_new w12 (.cells #[.slice pP qP rP, .bool xP, .slice aP nP cP] 30 (0, 0))
          have oP := Blk.new w12 30 #[.slice pP qP rP, .bool xP, .slice aP nP cP]
          have neAP : w3.heap.size ≠ w12.heap.size := by have := ltA; (try simp at this); omega
          have neBP : w5.heap.size ≠ w12.heap.size := by have := ltB; (try simp at this); omega
          have neZP : w6.heap.size ≠ w12.heap.size := by have := ltZ; (try simp at this); omega
          have neSP : w10.heap.size ≠ w12.heap.size := by have := ltS; (try simp at this); omega
          have neDP : w11.heap.size ≠ w12.heap.size := by have := ltD; (try simp at this); omega
          have lwP : w.heap.size ≤ w12.heap.size := by have := hbw.size; (try simp at this); omega
          replace oA := oA.stay hn
          replace ltA := oA.lt
          replace oB := oB.stay hn
          replace ltB := oB.lt
          replace oZ := oZ.stay hn
          replace ltZ := oZ.lt
          replace oS := oS.stay hn
          replace ltS := oS.lt
          replace oD := oD.stay hn
          replace ltD := oD.lt
          replace hA := hA.below hn
          replace hB := hB.below hn
          replace hZ := hZ.below hn
          replace hQ := hQ.below hn
          replace hS := hS.below hn
          replace hD := hD.below hn
          replace hP := hP.below hn
          replace hbw := hbw.step hn (Nat.le_refl _)
          clear hn
          have ltP := oP.lt
          by_cases h3 : c3 = 0
          · subst h3
            obtain ⟨rfl, rfl⟩ := H3.out rfl
            clear H3
            obtain ⟨Bc0, Bc1, Bc2⟩ := oB.three
            obtain ⟨Bk0, Bk1, Bk2⟩ := oB.frozen3
            go_wp2_with fail
            refine (lcoef_any _ qs t v _ hB.val).mono ?_
            rintro e w13 ⟨xC, aC, nC, cC, rfl, hC, hb⟩
            clear Bc0 Bc1 Bc2 Bk0 Bk1 Bk2
            replace oA := oA.stay hb
            replace ltA := oA.lt
            replace oB := oB.stay hb
            replace ltB := oB.lt
            replace oZ := oZ.stay hb
            replace ltZ := oZ.lt
            replace oS := oS.stay hb
            replace ltS := oS.lt
            replace oD := oD.stay hb
            replace ltD := oD.lt
            replace oP := oP.stay hb
            replace ltP := oP.lt
            replace hA := hA.below hb
            replace hB := hB.below hb
            replace hZ := hZ.below hb
            replace hQ := hQ.below hb
            replace hS := hS.below hb
            replace hD := hD.below hb
            replace hP := hP.below hb
            replace hbw := hbw.step hb (Nat.le_refl _)
            clear hb
            go_wp2_with fail
            refine (sign_h _ (coefZ qs v) _ hC).mono ?_
            rintro e w14 ⟨rfl, hb⟩
            replace oA := oA.stay hb
            replace ltA := oA.lt
            replace oB := oB.stay hb
            replace ltB := oB.lt
            replace oZ := oZ.stay hb
            replace ltZ := oZ.lt
            replace oS := oS.stay hb
            replace ltS := oS.lt
            replace oD := oD.stay hb
            replace ltD := oD.lt
            replace oP := oP.stay hb
            replace ltP := oP.lt
            replace hA := hA.below hb
            replace hB := hB.below hb
            replace hZ := hZ.below hb
            replace hQ := hQ.below hb
            replace hS := hS.below hb
            replace hD := hD.below hb
            replace hP := hP.below hb
            replace hC := hC.below hb
            replace hbw := hbw.step hb (Nat.le_refl _)
            clear hb
            by_cases h4 : coefZ qs v = 0
            · have hs : (coefZ qs v).sign = 0 := by rw [h4]; rfl
              have HE : Hid (coefZ (putP ps v qs) v = 0) := put_gone HF.out HG.out h4
              clear h4
              obtain ⟨Pc0, Pc1, Pc2⟩ := oP.three
              obtain ⟨Pk0, Pk1, Pk2⟩ := oP.frozen3
              go_wp2_with fail
              refine (lcoef_any _ _ _ v _ hP.val).mono ?_
              rintro e w15 ⟨xE, aE, nE, cE, rfl, hE, hb⟩
              clear Pc0 Pc1 Pc2 Pk0 Pk1 Pk2
              replace oA := oA.stay hb
              replace ltA := oA.lt
              replace oB := oB.stay hb
              replace ltB := oB.lt
              replace oZ := oZ.stay hb
              replace ltZ := oZ.lt
              replace oS := oS.stay hb
              replace ltS := oS.lt
              replace oD := oD.stay hb
              replace ltD := oD.lt
              replace oP := oP.stay hb
              replace ltP := oP.lt
              replace hA := hA.below hb
              replace hB := hB.below hb
              replace hZ := hZ.below hb
              replace hQ := hQ.below hb
              replace hS := hS.below hb
              replace hD := hD.below hb
              replace hP := hP.below hb
              replace hC := hC.below hb
              replace hbw := hbw.step hb (Nat.le_refl _)
              clear hb
              rw [HE.out] at hE
              go_wp2_with fail
              refine (sign_h _ 0 _ hE).mono ?_
              rintro e w16 ⟨rfl, hb⟩
              replace oA := oA.stay hb
              replace ltA := oA.lt
              replace oB := oB.stay hb
              replace ltB := oB.lt
              replace oZ := oZ.stay hb
              replace ltZ := oZ.lt
              replace oS := oS.stay hb
              replace ltS := oS.lt
              replace oD := oD.stay hb
              replace ltD := oD.lt
              replace oP := oP.stay hb
              replace ltP := oP.lt
              replace hA := hA.below hb
              replace hB := hB.below hb
              replace hZ := hZ.below hb
              replace hQ := hQ.below hb
              replace hS := hS.below hb
              replace hD := hD.below hb
              replace hP := hP.below hb
              replace hC := hC.below hb
              replace hE := hE.below hb
              replace hbw := hbw.step hb (Nat.le_refl _)
              clear hb
              go_wp2
              go_ret
              exact ⟨rfl, hbw⟩
            · have hs : ((coefZ qs v).sign != 0) = true := by rw [bne_iff_ne]; exact fun k => h4 (Int.sign_eq_zero_iff_zero.1 k)
              clear h4
              go_wp2
              go_ret
              exact ⟨rfl, hbw⟩
          · have h3b : (c3 != 0) = true := by rw [bne_iff_ne]; exact h3
            clear h3 H3
            go_wp2
            go_ret
            exact ⟨rfl, hbw⟩
      · clear f1 key
        obtain ⟨Ac0, Ac1, Ac2⟩ := oA.three
        obtain ⟨Ak0, Ak1, Ak2⟩ := oA.frozen3
        obtain ⟨Bc0, Bc1, Bc2⟩ := oB.three
        obtain ⟨Bk0, Bk1, Bk2⟩ := oB.frozen3
        go_wp2_with fail
        refine (put_x _ _ ps qs r t v _ hA.val hB.val).mono ?_
        rintro e w12 ⟨pP, qP, rP, xP, aP, nP, cP, us, p0, c3, rfl, hP, H3, hb⟩
        clear Ac0 Ac1 Ac2 Ak0 Ak1 Ak2
        clear Bc0 Bc1 Bc2 Bk0 Bk1 Bk2
        replace oA := oA.stay hb
        replace ltA := oA.lt
        replace oB := oB.stay hb
        replace ltB := oB.lt
        replace oZ := oZ.stay hb
        replace ltZ := oZ.lt
        replace oS := oS.stay hb
        replace ltS := oS.lt
        replace oD := oD.stay hb
        replace ltD := oD.lt
        replace hA := hA.below hb
        replace hB := hB.below hb
        replace hZ := hZ.below hb
        replace hQ := hQ.below hb
        replace hS := hS.below hb
        replace hD := hD.below hb
        replace hbw := hbw.step hb (Nat.le_refl _)
        clear hb
        have hn := below_new w12 (.cells #[.slice pP qP rP, .bool xP, .slice aP nP cP] 30 (0, 0))
        have oP := Blk.new w12 30 #[.slice pP qP rP, .bool xP, .slice aP nP cP]
        have neAP : w3.heap.size ≠ w12.heap.size := by have := ltA; (try simp at this); omega
        have neBP : w5.heap.size ≠ w12.heap.size := by have := ltB; (try simp at this); omega
        have neZP : w6.heap.size ≠ w12.heap.size := by have := ltZ; (try simp at this); omega
        have neSP : w10.heap.size ≠ w12.heap.size := by have := ltS; (try simp at this); omega
        have neDP : w11.heap.size ≠ w12.heap.size := by have := ltD; (try simp at this); omega
        have lwP : w.heap.size ≤ w12.heap.size := by have := hbw.size; (try simp at this); omega
        replace oA := oA.stay hn
        replace ltA := oA.lt
        replace oB := oB.stay hn
        replace ltB := oB.lt
        replace oZ := oZ.stay hn
        replace ltZ := oZ.lt
        replace oS := oS.stay hn
        replace ltS := oS.lt
        replace oD := oD.stay hn
        replace ltD := oD.lt
        replace hA := hA.below hn
        replace hB := hB.below hn
        replace hZ := hZ.below hn
        replace hQ := hQ.below hn
        replace hS := hS.below hn
        replace hD := hD.below hn
        replace hP := hP.below hn
        replace hbw := hbw.step hn (Nat.le_refl _)
        clear hn
        have ltP := oP.lt
        by_cases h3 : c3 = 0
        · subst h3
          obtain ⟨rfl, rfl⟩ := H3.out rfl
          clear H3
          obtain ⟨Bc0, Bc1, Bc2⟩ := oB.three
          obtain ⟨Bk0, Bk1, Bk2⟩ := oB.frozen3
          go_wp2_with fail
          refine (lcoef_any _ qs t v _ hB.val).mono ?_
          rintro e w13 ⟨xC, aC, nC, cC, rfl, hC, hb⟩
          clear Bc0 Bc1 Bc2 Bk0 Bk1 Bk2
          replace oA := oA.stay hb
          replace ltA := oA.lt
          replace oB := oB.stay hb
          replace ltB := oB.lt
          replace oZ := oZ.stay hb
          replace ltZ := oZ.lt
          replace oS := oS.stay hb
          replace ltS := oS.lt
          replace oD := oD.stay hb
          replace ltD := oD.lt
          replace oP := oP.stay hb
          replace ltP := oP.lt
          replace hA := hA.below hb
          replace hB := hB.below hb
          replace hZ := hZ.below hb
          replace hQ := hQ.below hb
          replace hS := hS.below hb
          replace hD := hD.below hb
          replace hP := hP.below hb
          replace hbw := hbw.step hb (Nat.le_refl _)
          clear hb
          go_wp2_with fail
          refine (sign_h _ (coefZ qs v) _ hC).mono ?_
          rintro e w14 ⟨rfl, hb⟩
          replace oA := oA.stay hb
          replace ltA := oA.lt
          replace oB := oB.stay hb
          replace ltB := oB.lt
          replace oZ := oZ.stay hb
          replace ltZ := oZ.lt
          replace oS := oS.stay hb
          replace ltS := oS.lt
          replace oD := oD.stay hb
          replace ltD := oD.lt
          replace oP := oP.stay hb
          replace ltP := oP.lt
          replace hA := hA.below hb
          replace hB := hB.below hb
          replace hZ := hZ.below hb
          replace hQ := hQ.below hb
          replace hS := hS.below hb
          replace hD := hD.below hb
          replace hP := hP.below hb
          replace hC := hC.below hb
          replace hbw := hbw.step hb (Nat.le_refl _)
          clear hb
          by_cases h4 : coefZ qs v = 0
          · have hs : (coefZ qs v).sign = 0 := by rw [h4]; rfl
            have HE : Hid (coefZ (putP ps v qs) v = 0) := put_gone HF.out HG.out h4
            clear h4
            obtain ⟨Pc0, Pc1, Pc2⟩ := oP.three
            obtain ⟨Pk0, Pk1, Pk2⟩ := oP.frozen3
            go_wp2_with fail
            refine (lcoef_any _ _ _ v _ hP.val).mono ?_
            rintro e w15 ⟨xE, aE, nE, cE, rfl, hE, hb⟩
            clear Pc0 Pc1 Pc2 Pk0 Pk1 Pk2
            replace oA := oA.stay hb
            replace ltA := oA.lt
            replace oB := oB.stay hb
            replace ltB := oB.lt
            replace oZ := oZ.stay hb
            replace ltZ := oZ.lt
            replace oS := oS.stay hb
            replace ltS := oS.lt
            replace oD := oD.stay hb
            replace ltD := oD.lt
            replace oP := oP.stay hb
            replace ltP := oP.lt
            replace hA := hA.below hb
            replace hB := hB.below hb
            replace hZ := hZ.below hb
            replace hQ := hQ.below hb
            replace hS := hS.below hb
            replace hD := hD.below hb
            replace hP := hP.below hb
            replace hC := hC.below hb
            replace hbw := hbw.step hb (Nat.le_refl _)
            clear hb
            rw [HE.out] at hE
            go_wp2_with fail
            refine (sign_h _ 0 _ hE).mono ?_
            rintro e w16 ⟨rfl, hb⟩
            replace oA := oA.stay hb
            replace ltA := oA.lt
            replace oB := oB.stay hb
            replace ltB := oB.lt
            replace oZ := oZ.stay hb
            replace ltZ := oZ.lt
            replace oS := oS.stay hb
            replace ltS := oS.lt
            replace oD := oD.stay hb
            replace ltD := oD.lt
            replace oP := oP.stay hb
            replace ltP := oP.lt
            replace hA := hA.below hb
            replace hB := hB.below hb
            replace hZ := hZ.below hb
            replace hQ := hQ.below hb
            replace hS := hS.below hb
            replace hD := hD.below hb
            replace hP := hP.below hb
            replace hC := hC.below hb
            replace hE := hE.below hb
            replace hbw := hbw.step hb (Nat.le_refl _)
            clear hb
            go_wp2
            go_ret
            exact ⟨rfl, hbw⟩
          · have hs : ((coefZ qs v).sign != 0) = true := by rw [bne_iff_ne]; exact fun k => h4 (Int.sign_eq_zero_iff_zero.1 k)
            clear h4
            go_wp2
            go_ret
            exact ⟨rfl, hbw⟩
        · have h3b : (c3 != 0) = true := by rw [bne_iff_ne]; exact h3
          clear h3 H3
          go_wp2
          go_ret
          exact ⟨rfl, hbw⟩

end Go.Proofs.YteefniagebcagabGreatDoor
