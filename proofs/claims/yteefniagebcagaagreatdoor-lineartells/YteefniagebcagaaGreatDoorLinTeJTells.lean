/- The walk of suretylaw03.LinearTells; they prove no statement of the seat. -/
import Derived.Test.YteefniagebcagaaGreatDoorJoin20Tells
import Derived.Test.YteefniagebcagaaGreatDoorRefLJTells
import Derived.Test.YteefniagebcagaaGreatDoorRefOJTells
import Derived.Test.YteefniagebcagaaGreatDoorRefGJTells
import Derived.Test.YteefniagebcagaaGreatDoorLinZJTells
import Derived.Test.YteefniagebcagaaGreatDoorRegKJTells
namespace Go.Proofs.YteefniagebcagaaGreatDoor
open Go.RowKit
set_option linter.unusedVariables false

theorem isNum_2 (v : Value) (ps : List (Nat × Int)) (r : Int) (b : Bool) (hb : decide (ps = []) = b) (w : World) (hv : TermR w v ps r) :
    Calls Tryz.prog 29 #[v] w fun e w' => e = .returned (.bool b) ∧ Below w.heap.size w w' := by
  subst hb
  exact isNum_any v ps r w hv
theorem lvar_2 (v : Int) (k : Int) (h : (if 0 ≤ v ∧ v < 4096 then 0 else 30 : Int) = k) (w : World) :
    Calls Tryz.prog 27 #[.int .i64 v] w fun e w' => ∃ p q r x a n c, e = .returned (.tuple #[.agg #[.slice p q r, .bool x, .slice a n c], .int .i64 k]) ∧ Below w.heap.size w w' := by
  subst h
  refine (lvar_any v w).mono ?_
  rintro e w' ⟨ao, n, cap, x, a, m, c, ps, rfl, _, _, hb⟩
  exact ⟨_, _, _, _, _, _, _, rfl, hb⟩
theorem lcoef_2 (vX : Value) (a : List (Nat × Int)) (r v z : Int) (h : coefZ a v = z) (w : World) (hX : TermR w vX a r) :
    Calls Tryz.prog 33 #[vX, .int .i64 v] w fun e w' => ∃ x m n c, e = .returned (.agg #[.bool x, .slice m n c]) ∧ AInt w' (.agg #[.bool x, .slice m n c]) z ∧ Below w.heap.size w w' := by
  subst h
  exact lcoef_any vX a r v w hX

theorem rcoef_2 (vX : Value) (a : List (Nat × Int)) (r v z : Int) (h : coefZ a v = z) (w : World) (hX : RTermR w vX a r) :
    Calls Tryz.prog 34 #[vX, .int .i64 v] w fun e w' => ∃ x m n c, e = .returned (.agg #[.bool x, .slice m n c]) ∧ RNum w' (.agg #[.bool x, .slice m n c]) z 400 ∧ Below w.heap.size w w' := by
  subst h
  exact rcoef_any vX a r v w hX
/-- The way from an earlier world. -/
structure Way (w0 w : World) : Prop where
  b : Below w0.heap.size w0 w
theorem Way.below {w0 w w' : World} (h : Way w0 w) (hb : Below w.heap.size w w') : Way w0 w' := ⟨h.b.step hb (Nat.le_refl _)⟩

set_option maxRecDepth 20000 in
set_option maxHeartbeats 64000000 in
theorem linearTells_any (aX : Option Addr) (nX cX : Nat) (ms : List (Int × ByteArray)) (v : Int) (w : World) (ht : Tab w) (hm : MArr w aX ms) (hl : ms.length = nX) (hx : nX ≤ maxLen) :
    Calls Tryz.prog 4 #[.slice aX nX cX, .int .i64 v] w fun e w' => e = .returned (.bool true) ∧ Below w.heap.size w w' := by
  have HTB : Hid (Tab w) := ht
  have HM : Hid (MArr w aX ms) := hm
  have HLN : Hid (ms.length = nX) := hl
  have HXN : Hid (nX ≤ maxLen) := hx
  clear ht hm hl hx
  have hbw := Below.refl w.heap.size w
  go_enter Tryz.func4, Tryz.ntmps4
  go_wp2_with fail
  refine (awake3_any _ (HTB.out.below hbw)).mono ?_
  rintro e w1 ⟨rfl, hb⟩
  replace hbw := hbw.step hb (Nat.le_refl _)
  clear hb
  go_wp2_with fail
  refine (few_any aX nX cX ms _ (HM.out.below hbw) HLN.out HXN.out).mono ?_
  rintro e w2 ⟨a0, n0, c0, rfl, hn0, hm0, hb⟩
  replace hbw := hbw.step hb (Nat.le_refl _)
  clear hb
  have HN0 : Hid ((fewM ms).length = n0) := hn0
  have HN1 : Hid (n0 ≤ maxLen) := by show _ ≤ _; rw [← hn0]; have := fewM_len ms; unfold maxLen; omega
  clear hn0
  go_wp2_with fail
  refine (term_any a0 n0 c0 (fewM ms) _ hm0 HN0.out HN1.out (fewM_size ms)).mono ?_
  rintro e w3 ⟨_, ps, r, ok, rfl, ⟨pA, qA, rA, xA, aA, nA, cA, rfl, hA⟩, HT, hb⟩
  replace hm0 := hm0.below hb
  replace hbw := hbw.step hb (Nat.le_refl _)
  clear hb
  have hn := below_new w3 (.cells #[.slice pA qA rA, .bool xA, .slice aA nA cA] 33 (0, 0))
  have oA := Blk.new w3 33 #[.slice pA qA rA, .bool xA, .slice aA nA cA]
  have lwA : w.heap.size ≤ w3.heap.size := by have := hbw.size; (try simp at this); omega
  replace hm0 := hm0.below hn
  replace hA := hA.below hn
  replace hbw := hbw.step hn (Nat.le_refl _)
  clear hn
  have ltA := oA.lt
  go_wp2_with fail
  refine (rsum_any a0 n0 c0 (fewM ms) _ hm0 HN0.out HN1.out (fewM_size ms)).mono ?_
  rintro e w4 ⟨_, co, qs, t, rfl, ⟨pB, qB, rB, xB, aB, nB, cB, rfl, hB⟩, HT2, hb⟩
  replace oA := oA.stay hb
  replace ltA := oA.lt
  replace hm0 := hm0.below hb
  replace hA := hA.below hb
  replace hbw := hbw.step hb (Nat.le_refl _)
  clear hb
  have hn := below_new w4 (.cells #[.slice pB qB rB, .bool xB, .slice aB nB cB] 41 (0, 0))
  have oB := Blk.new w4 41 #[.slice pB qB rB, .bool xB, .slice aB nB cB]
  have neAB : w3.heap.size ≠ w4.heap.size := by have := ltA; (try simp at this); omega
  have lwB : w.heap.size ≤ w4.heap.size := by have := hbw.size; (try simp at this); omega
  replace oA := oA.stay hn
  replace ltA := oA.lt
  replace hm0 := hm0.below hn
  replace hA := hA.below hn
  replace hB := hB.below hn
  replace hbw := hbw.step hn (Nat.le_refl _)
  clear hn
  have ltB := oB.lt
  clear hm0
  obtain ⟨kv, hkv⟩ : ∃ k, k = (if 0 ≤ v ∧ v < 4096 then 0 else 30 : Int) := ⟨_, rfl⟩
  have HKV : Hid ((if 0 ≤ v ∧ v < 4096 then 0 else 30 : Int) = kv) := hkv.symm
  clear hkv
  go_wp2_with fail
  refine (lvar_2 v kv HKV.out _).mono ?_
  rintro e w5 ⟨pV, qV, rV, xV, aV, nV, cV, rfl, hb⟩
  replace oA := oA.stay hb
  replace ltA := oA.lt
  replace oB := oB.stay hb
  replace ltB := oB.lt
  replace hA := hA.below hb
  replace hB := hB.below hb
  replace hbw := hbw.step hb (Nat.le_refl _)
  clear hb
  have hn := below_new w5 (.cells #[.slice pV qV rV, .bool xV, .slice aV nV cV] 33 (0, 0))
  have oV := Blk.new w5 33 #[.slice pV qV rV, .bool xV, .slice aV nV cV]
  have neAV : w3.heap.size ≠ w5.heap.size := by have := ltA; (try simp at this); omega
  have neBV : w4.heap.size ≠ w5.heap.size := by have := ltB; (try simp at this); omega
  have lwV : w.heap.size ≤ w5.heap.size := by have := hbw.size; (try simp at this); omega
  replace oA := oA.stay hn
  replace ltA := oA.lt
  replace oB := oB.stay hn
  replace ltB := oB.lt
  replace hA := hA.below hn
  replace hB := hB.below hn
  replace hbw := hbw.step hn (Nat.le_refl _)
  clear hn
  have ltV := oV.lt
  have hcase : (0 ≤ v ∧ v < 4096 ∧ kv = 0) ∨ (v < 0 ∧ kv = 30) ∨ (¬ v < 0 ∧ 0 ≤ v ∧ ¬ v < 4096 ∧ kv = 30) := by
    have h := HKV.out
    by_cases h1 : 0 ≤ v ∧ v < 4096
    · rw [if_pos h1] at h; exact Or.inl ⟨h1.1, h1.2, h.symm⟩
    · rw [if_neg h1] at h
      by_cases h2 : v < 0
      · exact Or.inr (Or.inl ⟨h2, h.symm⟩)
      · exact Or.inr (Or.inr ⟨h2, by omega, by omega, h.symm⟩)
  clear HKV
  cases ok
  · clear HT HT2
    rcases hcase with ⟨h1, h2, rfl⟩ | ⟨h1, rfl⟩ | ⟨h0, h1, h2, rfl⟩
    all_goals
      go_wp2
      go_ret
      exact ⟨rfl, hbw⟩
  · obtain ⟨rfl, rfl, rfl⟩ := term_sum HT.out HT2.out
    clear HT HT2
    have HPN : Hid (Fine qs) := hA.fine
    have hq : qB = qA := hB.len.symm.trans hA.len
    subst hq
    have hlen := hA.n_le
    go_upto_region 7 with fail
    generalize (w5.alloc (.cells #[.slice pV qV rV, .bool xV, .slice aV nV cV] 33 (0, 0))) = W5 at hbw oA oB oV ltA ltB ltV hA hB ⊢
    go_cut [48] (fun c wx => c = .bool false ∧ wx = W5)
    case first =>
      rcases hcase with ⟨h1, h2, rfl⟩ | ⟨h1, rfl⟩ | ⟨h0, h1, h2, rfl⟩
      all_goals
        go_wp2_with fail
        go_meet
        case rel =>
          refine ⟨?_, rfl⟩
          first | rfl | (rw [decide_eq_false (by omega)])
    case rest =>
      obtain ⟨rfl, rfl⟩ := hcut
      clear hcase
      obtain ⟨Ac0, Ac1, Ac2⟩ := oA.three
      obtain ⟨Ak0, Ak1, Ak2⟩ := oA.frozen3
      go_wp2_with fail
      refine (lvars_any _ qs t _ hA.val).mono ?_
      rintro e w9 ⟨gL, nL, rfl, hnL, hgL, hVA, hb⟩
      obtain rfl : qB = nL := hB.len.symm.trans hnL
      clear Ac0 Ac1 Ac2 Ak0 Ak1 Ak2
      have HA0 : Hid (TP wc pA qB rA xA aA nA cA qs t) := hA
      have HB0 : Hid (RTP wc pB qB rB xB aB nB cB qs t) := hB
      have HOA : Hid (Blk 33 wc _ #[.slice pA qB rA, .bool xA, .slice aA nA cA]) := oA
      have HOB : Hid (Blk 41 wc _ #[.slice pB qB rB, .bool xB, .slice aB nB cB]) := oB
      have HGL : Hid (wc.heap.size ≤ gL) := hgL
      have HWC : Hid (Below w.heap.size w wc) := hbw
      have hWY : Way wc w9 := ⟨hb⟩
      clear hgL hnL
      replace oA := oA.stay hb
      replace ltA := oA.lt
      replace oB := oB.stay hb
      replace ltB := oB.lt
      replace oV := oV.stay hb
      replace ltV := oV.lt
      replace hA := hA.below hb
      replace hB := hB.below hb
      replace hbw := hbw.step hb (Nat.le_refl _)
      clear hb oV ltV
      obtain ⟨bn, hbn⟩ : ∃ bn, bn = decide (qs = []) := ⟨_, rfl⟩
      have HBN : Hid (decide (qs = []) = bn) := hbn.symm
      have HBQ : Hid (((qB : Int) == 0) = bn) := by
        show _ = _
        rw [hbn]
        by_cases h : qs = []
        · have h2 : qB = 0 := by rw [← HB0.out.len, h]; rfl
          rw [h2, decide_eq_true h]; rfl
        · rw [decide_eq_false h, beq_eq_false_iff_ne]
          intro k
          exact h (List.eq_nil_of_length_eq_zero (by rw [HB0.out.len]; omega))
      clear hbn
      obtain ⟨cz, hcz⟩ : ∃ cz, cz = coefZ qs v := ⟨_, rfl⟩
      have HCZ : Hid (coefZ qs v = cz) := hcz.symm
      clear hcz
      go_wp2
      refine wp_region_K (by kernel_rfl) [53, 54, 55, 56, 57, 58, 59, 60, 61, 62, 63, 64, 65, 66, 67, 68, 69, 70, 71, 72, 73, 74, 75, 76, 77, 78, 79, 80, 81, 82, 83, 84, 85, 86, 87] [none, none, none, none, none, none, none, none, none, none, none, none, none, none, none, none, none, none, none, none, none, none, none, none, none, none, none, none, none, none, none, none, none, none, none, none, none, none, none, none, none, none, none, none, none, none, none, none, none, none, none, none, none, some 53, some 54, some 55, some 56, some 57, some 58, some 59, some 60, some 61, some 62, some 63, some 64, some 65, some 66, some 67, some 68, some 69, some 70, some 71, some 72, some 73, some 74, some 75, some 76, some 77, some 78, some 79, some 80, some 81, some 82, some 83, some 84, some 85, some 86, some 87] (fun U => by kernel_rfl) [IS (.slice (some ⟨gL, 0, none⟩) qB qB), IS (.int .i64 (qB : Nat)), IS (.pointer (some ⟨w4.heap.size, 0, none⟩)), IS (.slice pB qB rB), IS (.int .i64 (qB : Nat)), IS (.bool false), IS (.bool false), IS (.agg #[.slice pA qB rA, .bool xA, .slice aA nA cA]), IS (.bool bn), IS (.pointer (some ⟨w4.heap.size, 0, none⟩)), IS (.slice pB qB rB), IS (.int .i64 (qB : Nat)), IS (.bool bn), IS (.bool false), IS (.bool false), IS (.bool false), IS (.agg #[.slice pA qB rA, .bool xA, .slice aA nA cA]), INT t, IS (.string (nT t)), IS (.pointer (some ⟨w4.heap.size, 1, none⟩)), IS (.agg #[.bool xB, .slice aB nB cB]), IS (.string (nT t)), IS (.bool false), IS (.bool false), IS (.bool false), IS (.agg #[.slice pA qB rA, .bool xA, .slice aA nA cA]), IS (.int .i64 v), INT cz, IS (.string (nT cz)), IS (.agg #[.slice pB qB rB, .bool xB, .slice aB nB cB]), IS (.int .i64 v), RNM cz 400, IS (.string (nT cz)), IS (.bool false), IS (.bool false)] (by kernel_rfl) (by decide) (by kernel_rfl) (by kernel_rfl) ?_ ?_ ?_
      · exact (MonoL.cons mb_is (MonoL.cons mb_is (MonoL.cons mb_is (MonoL.cons mb_is (MonoL.cons mb_is (MonoL.cons mb_is (MonoL.cons mb_is (MonoL.cons mb_is (MonoL.cons mb_is (MonoL.cons mb_is (MonoL.cons mb_is (MonoL.cons mb_is (MonoL.cons mb_is (MonoL.cons mb_is (MonoL.cons mb_is (MonoL.cons mb_is (MonoL.cons mb_is (MonoL.cons mb_int (MonoL.cons mb_is (MonoL.cons mb_is (MonoL.cons mb_is (MonoL.cons mb_is (MonoL.cons mb_is (MonoL.cons mb_is (MonoL.cons mb_is (MonoL.cons mb_is (MonoL.cons mb_is (MonoL.cons mb_int (MonoL.cons mb_is (MonoL.cons mb_is (MonoL.cons mb_is (MonoL.cons mb_rnm (MonoL.cons mb_is (MonoL.cons mb_is (MonoL.cons mb_is MonoL.nil)))))))))))))))))))))))))))))))))))
      · refine StepsK.run rfl ?_ ?_
        · intro L U wr fB hP haf A K hFm hK
          simp [Aft, Region.binds] at haf
          have e11 : A.tmps[11]? = some (.slice (some ⟨gL, 0, none⟩) qB qB) := (hFm.old 11 (by decide)).trans (by kernel_rfl)
          refine ⟨?_⟩
          go_simp
          exact hK _ _ rfl (Below.refl _ _)
        refine StepsK.run rfl ?_ ?_
        · intro L U wr fB hP haf A K hFm hK
          simp [Aft, Region.binds] at haf
          have g0 : IS (.slice (some ⟨gL, 0, none⟩) qB qB) (U 53) wr := hP 0 (by simp [haf])
          have e53 : A.tmps[53]? = some (.slice (some ⟨gL, 0, none⟩) qB qB) := hFm.is 0 (by decide) g0
          refine ⟨?_⟩
          go_simp
          exact hK _ _ (rfl) (Below.refl _ _)
        refine StepsK.run rfl ?_ ?_
        · intro L U wr fB hP haf A K hFm hK
          simp [Aft, Region.binds] at haf
          have e7 : A.tmps[7]? = some (.pointer (some ⟨w4.heap.size, 0, none⟩)) := (hFm.old 7 (by decide)).trans (by kernel_rfl)
          refine ⟨?_⟩
          go_simp
          exact hK _ _ rfl (Below.refl _ _)
        refine StepsK.run rfl ?_ ?_
        · intro L U wr fB hP haf A K hFm hK
          simp [Aft, Region.binds] at haf
          have g2 : IS (.pointer (some ⟨w4.heap.size, 0, none⟩)) (U 55) wr := hP 2 (by simp [haf])
          have e55 : A.tmps[55]? = some (.pointer (some ⟨w4.heap.size, 0, none⟩)) := hFm.is 2 (by decide) g2
          have o9 := oB.stay fB
          have c0 := Blk.cell o9 0
          simp at c0
          refine ⟨?_⟩
          go_simp
          exact hK _ _ rfl (Below.refl _ _)
        refine StepsK.run rfl ?_ ?_
        · intro L U wr fB hP haf A K hFm hK
          simp [Aft, Region.binds] at haf
          have g3 : IS (.slice pB qB rB) (U 56) wr := hP 3 (by simp [haf])
          have e56 : A.tmps[56]? = some (.slice pB qB rB) := hFm.is 3 (by decide) g3
          refine ⟨?_⟩
          go_simp
          exact hK _ _ (rfl) (Below.refl _ _)
        refine StepsK.run rfl ?_ ?_
        · intro L U wr fB hP haf A K hFm hK
          simp [Aft, Region.binds] at haf
          have g1 : IS (.int .i64 (qB : Nat)) (U 54) wr := hP 1 (by simp [haf])
          have g4 : IS (.int .i64 (qB : Nat)) (U 57) wr := hP 4 (by simp [haf])
          have e54 : A.tmps[54]? = some (.int .i64 (qB : Nat)) := hFm.is 1 (by decide) g1
          have e57 : A.tmps[57]? = some (.int .i64 (qB : Nat)) := hFm.is 4 (by decide) g4
          refine ⟨?_⟩
          go_simp
          exact hK _ _ (rfl) (Below.refl _ _)
        refine StepsK.run rfl ?_ ?_
        · intro L U wr fB hP haf A K hFm hK
          simp [Aft, Region.binds] at haf
          have g5 : IS (.bool false) (U 58) wr := hP 5 (by simp [haf])
          have e58 : A.tmps[58]? = some (.bool false) := hFm.is 5 (by decide) g5
          refine ⟨?_⟩
          go_simp
          exact hK _ _ (rfl) (Below.refl _ _)
        refine StepsK.cond ?_ ?_
        · intro L U wr fB hP haf A K hFm hK
          simp [Aft, Region.binds] at haf
          have g6 : IS (.bool false) (U 59) wr := hP 6 (by simp [haf])
          have e59 : A.tmps[59]? = some (.bool false) := hFm.is 6 (by decide) g6
          have ee := e59
          refine ⟨?_⟩
          rw [if_pos (by simp [Region.wanted, yielded, ee])]
          refine Gate.out ?_
          clear ee e59 g6
          have e5 : A.tmps[5]? = some (.pointer (some ⟨w3.heap.size, 0, none⟩)) := (hFm.old 5 (by decide)).trans (by kernel_rfl)
          have o9 := oA.stay fB
          have c0 := Blk.cell o9 0
          have c1 := Blk.cell o9 1
          have c2 := Blk.cell o9 2
          simp at c0
          simp at c1
          simp at c2
          refine ⟨?_⟩
          go_simp
          exact hK _ _ rfl (Below.refl _ _)
        refine StepsK.cond ?_ ?_
        · intro L U wr fB hP haf A K hFm hK
          simp [Aft, Region.binds] at haf
          have g6 : IS (.bool false) (U 59) wr := hP 6 (by simp [haf])
          have e59 : A.tmps[59]? = some (.bool false) := hFm.is 6 (by decide) g6
          have ee := e59
          refine ⟨?_⟩
          rw [if_pos (by simp [Region.wanted, yielded, ee])]
          refine Gate.out ?_
          clear ee e59 g6
          have g7 : IS (.agg #[.slice pA qB rA, .bool xA, .slice aA nA cA]) (U 60) wr := hP 7 (by simp [haf])
          have e60 : A.tmps[60]? = some (.agg #[.slice pA qB rA, .bool xA, .slice aA nA cA]) := hFm.is 7 (by decide) g7
          have fk : KeepB w9 wr := ⟨fB⟩
          refine ⟨?_⟩
          go_simp
          refine (isNum_2 _ qs t bn HBN.out _ (hA.below fk.b).val).mono ?_
          rintro e w1 ⟨rfl, hb⟩
          go_simp
          exact hK _ _ (rfl) hb
        refine StepsK.cond ?_ ?_
        · intro L U wr fB hP haf A K hFm hK
          simp [Aft, Region.binds] at haf
          have g6 : IS (.bool false) (U 59) wr := hP 6 (by simp [haf])
          have e59 : A.tmps[59]? = some (.bool false) := hFm.is 6 (by decide) g6
          have ee := e59
          refine ⟨?_⟩
          rw [if_pos (by simp [Region.wanted, yielded, ee])]
          refine Gate.out ?_
          clear ee e59 g6
          have e7 : A.tmps[7]? = some (.pointer (some ⟨w4.heap.size, 0, none⟩)) := (hFm.old 7 (by decide)).trans (by kernel_rfl)
          refine ⟨?_⟩
          go_simp
          exact hK _ _ rfl (Below.refl _ _)
        refine StepsK.cond ?_ ?_
        · intro L U wr fB hP haf A K hFm hK
          simp [Aft, Region.binds] at haf
          have g6 : IS (.bool false) (U 59) wr := hP 6 (by simp [haf])
          have e59 : A.tmps[59]? = some (.bool false) := hFm.is 6 (by decide) g6
          have ee := e59
          refine ⟨?_⟩
          rw [if_pos (by simp [Region.wanted, yielded, ee])]
          refine Gate.out ?_
          clear ee e59 g6
          have g9 : IS (.pointer (some ⟨w4.heap.size, 0, none⟩)) (U 62) wr := hP 9 (by simp [haf])
          have e62 : A.tmps[62]? = some (.pointer (some ⟨w4.heap.size, 0, none⟩)) := hFm.is 9 (by decide) g9
          have o9 := oB.stay fB
          have c0 := Blk.cell o9 0
          simp at c0
          refine ⟨?_⟩
          go_simp
          exact hK _ _ rfl (Below.refl _ _)
        refine StepsK.cond ?_ ?_
        · intro L U wr fB hP haf A K hFm hK
          simp [Aft, Region.binds] at haf
          have g6 : IS (.bool false) (U 59) wr := hP 6 (by simp [haf])
          have e59 : A.tmps[59]? = some (.bool false) := hFm.is 6 (by decide) g6
          have ee := e59
          refine ⟨?_⟩
          rw [if_pos (by simp [Region.wanted, yielded, ee])]
          refine Gate.out ?_
          clear ee e59 g6
          have g10 : IS (.slice pB qB rB) (U 63) wr := hP 10 (by simp [haf])
          have e63 : A.tmps[63]? = some (.slice pB qB rB) := hFm.is 10 (by decide) g10
          refine ⟨?_⟩
          go_simp
          exact hK _ _ (rfl) (Below.refl _ _)
        refine StepsK.cond ?_ ?_
        · intro L U wr fB hP haf A K hFm hK
          simp [Aft, Region.binds] at haf
          have g6 : IS (.bool false) (U 59) wr := hP 6 (by simp [haf])
          have e59 : A.tmps[59]? = some (.bool false) := hFm.is 6 (by decide) g6
          have ee := e59
          refine ⟨?_⟩
          rw [if_pos (by simp [Region.wanted, yielded, ee])]
          refine Gate.out ?_
          clear ee e59 g6
          have g11 : IS (.int .i64 (qB : Nat)) (U 64) wr := hP 11 (by simp [haf])
          have hbq := HBQ.out
          have e64 : A.tmps[64]? = some (.int .i64 (qB : Nat)) := hFm.is 11 (by decide) g11
          refine ⟨?_⟩
          go_simp
          exact hK _ _ (rfl) (Below.refl _ _)
        refine StepsK.cond ?_ ?_
        · intro L U wr fB hP haf A K hFm hK
          simp [Aft, Region.binds] at haf
          have g6 : IS (.bool false) (U 59) wr := hP 6 (by simp [haf])
          have e59 : A.tmps[59]? = some (.bool false) := hFm.is 6 (by decide) g6
          have ee := e59
          refine ⟨?_⟩
          rw [if_pos (by simp [Region.wanted, yielded, ee])]
          refine Gate.out ?_
          clear ee e59 g6
          have g8 : IS (.bool bn) (U 61) wr := hP 8 (by simp [haf])
          have g12 : IS (.bool bn) (U 65) wr := hP 12 (by simp [haf])
          have e61 : A.tmps[61]? = some (.bool bn) := hFm.is 8 (by decide) g8
          have e65 : A.tmps[65]? = some (.bool bn) := hFm.is 12 (by decide) g12
          refine ⟨?_⟩
          go_simp
          exact hK _ _ (rfl) (Below.refl _ _)
        refine StepsK.run rfl ?_ ?_
        · intro L U wr fB hP haf A K hFm hK
          simp [Aft, Region.binds] at haf
          have g6 : IS (.bool false) (U 59) wr := hP 6 (by simp [haf])
          have g13 : IS (.bool false) (U 66) wr := hP 13 (by simp [haf])
          have e59 : A.tmps[59]? = some (.bool false) := hFm.is 6 (by decide) g6
          have e66 : A.tmps[66]? = some (.bool false) := hFm.is 13 (by decide) g13
          refine ⟨?_⟩
          go_simp
          exact hK _ _ (rfl) (Below.refl _ _)
        refine StepsK.run rfl ?_ ?_
        · intro L U wr fB hP haf A K hFm hK
          simp [Aft, Region.binds] at haf
          have g14 : IS (.bool false) (U 67) wr := hP 14 (by simp [haf])
          have e67 : A.tmps[67]? = some (.bool false) := hFm.is 14 (by decide) g14
          refine ⟨?_⟩
          go_simp
          exact hK _ _ (rfl) (Below.refl _ _)
        refine StepsK.cond ?_ ?_
        · intro L U wr fB hP haf A K hFm hK
          simp [Aft, Region.binds] at haf
          have g15 : IS (.bool false) (U 68) wr := hP 15 (by simp [haf])
          have e68 : A.tmps[68]? = some (.bool false) := hFm.is 15 (by decide) g15
          have ee := e68
          refine ⟨?_⟩
          rw [if_pos (by simp [Region.wanted, yielded, ee])]
          refine Gate.out ?_
          clear ee e68 g15
          have e5 : A.tmps[5]? = some (.pointer (some ⟨w3.heap.size, 0, none⟩)) := (hFm.old 5 (by decide)).trans (by kernel_rfl)
          have o9 := oA.stay fB
          have c0 := Blk.cell o9 0
          have c1 := Blk.cell o9 1
          have c2 := Blk.cell o9 2
          simp at c0
          simp at c1
          simp at c2
          refine ⟨?_⟩
          go_simp
          exact hK _ _ rfl (Below.refl _ _)
        refine StepsK.cond ?_ ?_
        · intro L U wr fB hP haf A K hFm hK
          simp [Aft, Region.binds] at haf
          have g15 : IS (.bool false) (U 68) wr := hP 15 (by simp [haf])
          have e68 : A.tmps[68]? = some (.bool false) := hFm.is 15 (by decide) g15
          have ee := e68
          refine ⟨?_⟩
          rw [if_pos (by simp [Region.wanted, yielded, ee])]
          refine Gate.out ?_
          clear ee e68 g15
          have g16 : IS (.agg #[.slice pA qB rA, .bool xA, .slice aA nA cA]) (U 69) wr := hP 16 (by simp [haf])
          have e69 : A.tmps[69]? = some (.agg #[.slice pA qB rA, .bool xA, .slice aA nA cA]) := hFm.is 16 (by decide) g16
          have fk : KeepB w9 wr := ⟨fB⟩
          refine ⟨?_⟩
          go_simp
          refine (lrest_any _ qs t _ (hA.below fk.b).val).mono ?_
          rintro e w1 ⟨u1, u2, u3, u4, rfl, hr, hb⟩
          go_simp
          exact hK _ _ (hr) hb
        refine StepsK.cond ?_ ?_
        · intro L U wr fB hP haf A K hFm hK
          simp [Aft, Region.binds] at haf
          have g15 : IS (.bool false) (U 68) wr := hP 15 (by simp [haf])
          have e68 : A.tmps[68]? = some (.bool false) := hFm.is 15 (by decide) g15
          have ee := e68
          refine ⟨?_⟩
          rw [if_pos (by simp [Region.wanted, yielded, ee])]
          refine Gate.out ?_
          clear ee e68 g15
          have g17 : INT t (U 70) wr := hP 17 (by simp [haf])
          have e70 : A.tmps[70]? = some (U 70) := hFm.got 17 (by decide)
          refine ⟨?_⟩
          go_simp
          refine (text_h _ t _ g17).mono ?_
          rintro e w1 ⟨rfl, hb⟩
          go_simp
          exact hK _ _ (rfl) hb
        refine StepsK.cond ?_ ?_
        · intro L U wr fB hP haf A K hFm hK
          simp [Aft, Region.binds] at haf
          have g15 : IS (.bool false) (U 68) wr := hP 15 (by simp [haf])
          have e68 : A.tmps[68]? = some (.bool false) := hFm.is 15 (by decide) g15
          have ee := e68
          refine ⟨?_⟩
          rw [if_pos (by simp [Region.wanted, yielded, ee])]
          refine Gate.out ?_
          clear ee e68 g15
          have e7 : A.tmps[7]? = some (.pointer (some ⟨w4.heap.size, 0, none⟩)) := (hFm.old 7 (by decide)).trans (by kernel_rfl)
          refine ⟨?_⟩
          go_simp
          exact hK _ _ rfl (Below.refl _ _)
        refine StepsK.cond ?_ ?_
        · intro L U wr fB hP haf A K hFm hK
          simp [Aft, Region.binds] at haf
          have g15 : IS (.bool false) (U 68) wr := hP 15 (by simp [haf])
          have e68 : A.tmps[68]? = some (.bool false) := hFm.is 15 (by decide) g15
          have ee := e68
          refine ⟨?_⟩
          rw [if_pos (by simp [Region.wanted, yielded, ee])]
          refine Gate.out ?_
          clear ee e68 g15
          have g19 : IS (.pointer (some ⟨w4.heap.size, 1, none⟩)) (U 72) wr := hP 19 (by simp [haf])
          have e72 : A.tmps[72]? = some (.pointer (some ⟨w4.heap.size, 1, none⟩)) := hFm.is 19 (by decide) g19
          have o9 := oB.stay fB
          have c1 := Blk.cell o9 1
          have c2 := Blk.cell o9 2
          simp at c1
          simp at c2
          refine ⟨?_⟩
          go_simp
          exact hK _ _ rfl (Below.refl _ _)
        refine StepsK.cond ?_ ?_
        · intro L U wr fB hP haf A K hFm hK
          simp [Aft, Region.binds] at haf
          have g15 : IS (.bool false) (U 68) wr := hP 15 (by simp [haf])
          have e68 : A.tmps[68]? = some (.bool false) := hFm.is 15 (by decide) g15
          have ee := e68
          refine ⟨?_⟩
          rw [if_pos (by simp [Region.wanted, yielded, ee])]
          refine Gate.out ?_
          clear ee e68 g15
          have g20 : IS (.agg #[.bool xB, .slice aB nB cB]) (U 73) wr := hP 20 (by simp [haf])
          have e73 : A.tmps[73]? = some (.agg #[.bool xB, .slice aB nB cB]) := hFm.is 20 (by decide) g20
          have fk : KeepB w9 wr := ⟨fB⟩
          refine ⟨?_⟩
          go_simp
          refine (rshow_h _ t 400 _ (hB.below fk.b).rest (by decide)).mono ?_
          rintro e w1 ⟨rfl, hb⟩
          go_simp
          exact hK _ _ (rfl) hb
        refine StepsK.cond ?_ ?_
        · intro L U wr fB hP haf A K hFm hK
          simp [Aft, Region.binds] at haf
          have g15 : IS (.bool false) (U 68) wr := hP 15 (by simp [haf])
          have e68 : A.tmps[68]? = some (.bool false) := hFm.is 15 (by decide) g15
          have ee := e68
          refine ⟨?_⟩
          rw [if_pos (by simp [Region.wanted, yielded, ee])]
          refine Gate.out ?_
          clear ee e68 g15
          have g18 : IS (.string (nT t)) (U 71) wr := hP 18 (by simp [haf])
          have g21 : IS (.string (nT t)) (U 74) wr := hP 21 (by simp [haf])
          have e71 : A.tmps[71]? = some (.string (nT t)) := hFm.is 18 (by decide) g18
          have e74 : A.tmps[74]? = some (.string (nT t)) := hFm.is 21 (by decide) g21
          refine ⟨?_⟩
          go_simp
          exact hK _ _ (rfl) (Below.refl _ _)
        refine StepsK.run rfl ?_ ?_
        · intro L U wr fB hP haf A K hFm hK
          simp [Aft, Region.binds] at haf
          have g15 : IS (.bool false) (U 68) wr := hP 15 (by simp [haf])
          have g22 : IS (.bool false) (U 75) wr := hP 22 (by simp [haf])
          have e68 : A.tmps[68]? = some (.bool false) := hFm.is 15 (by decide) g15
          have e75 : A.tmps[75]? = some (.bool false) := hFm.is 22 (by decide) g22
          refine ⟨?_⟩
          go_simp
          exact hK _ _ (rfl) (Below.refl _ _)
        refine StepsK.run rfl ?_ ?_
        · intro L U wr fB hP haf A K hFm hK
          simp [Aft, Region.binds] at haf
          have g23 : IS (.bool false) (U 76) wr := hP 23 (by simp [haf])
          have e76 : A.tmps[76]? = some (.bool false) := hFm.is 23 (by decide) g23
          refine ⟨?_⟩
          go_simp
          exact hK _ _ (rfl) (Below.refl _ _)
        refine StepsK.cond ?_ ?_
        · intro L U wr fB hP haf A K hFm hK
          simp [Aft, Region.binds] at haf
          have g24 : IS (.bool false) (U 77) wr := hP 24 (by simp [haf])
          have e77 : A.tmps[77]? = some (.bool false) := hFm.is 24 (by decide) g24
          have ee := e77
          refine ⟨?_⟩
          rw [if_pos (by simp [Region.wanted, yielded, ee])]
          refine Gate.out ?_
          clear ee e77 g24
          have e5 : A.tmps[5]? = some (.pointer (some ⟨w3.heap.size, 0, none⟩)) := (hFm.old 5 (by decide)).trans (by kernel_rfl)
          have o9 := oA.stay fB
          have c0 := Blk.cell o9 0
          have c1 := Blk.cell o9 1
          have c2 := Blk.cell o9 2
          simp at c0
          simp at c1
          simp at c2
          refine ⟨?_⟩
          go_simp
          exact hK _ _ rfl (Below.refl _ _)
        refine StepsK.cond ?_ ?_
        · intro L U wr fB hP haf A K hFm hK
          simp [Aft, Region.binds] at haf
          have g24 : IS (.bool false) (U 77) wr := hP 24 (by simp [haf])
          have e77 : A.tmps[77]? = some (.bool false) := hFm.is 24 (by decide) g24
          have ee := e77
          refine ⟨?_⟩
          rw [if_pos (by simp [Region.wanted, yielded, ee])]
          refine Gate.out ?_
          clear ee e77 g24
          have e1 : A.tmps[1]? = some (.int .i64 v) := (hFm.old 1 (by decide)).trans (by kernel_rfl)
          refine ⟨?_⟩
          go_simp
          exact hK _ _ rfl (Below.refl _ _)
        refine StepsK.cond ?_ ?_
        · intro L U wr fB hP haf A K hFm hK
          simp [Aft, Region.binds] at haf
          have g24 : IS (.bool false) (U 77) wr := hP 24 (by simp [haf])
          have e77 : A.tmps[77]? = some (.bool false) := hFm.is 24 (by decide) g24
          have ee := e77
          refine ⟨?_⟩
          rw [if_pos (by simp [Region.wanted, yielded, ee])]
          refine Gate.out ?_
          clear ee e77 g24
          have g25 : IS (.agg #[.slice pA qB rA, .bool xA, .slice aA nA cA]) (U 78) wr := hP 25 (by simp [haf])
          have e78 : A.tmps[78]? = some (.agg #[.slice pA qB rA, .bool xA, .slice aA nA cA]) := hFm.is 25 (by decide) g25
          have g26 : IS (.int .i64 v) (U 79) wr := hP 26 (by simp [haf])
          have e79 : A.tmps[79]? = some (.int .i64 v) := hFm.is 26 (by decide) g26
          have fk : KeepB w9 wr := ⟨fB⟩
          refine ⟨?_⟩
          go_simp
          refine (lcoef_2 _ qs t v cz HCZ.out _ (hA.below fk.b).val).mono ?_
          rintro e w1 ⟨u1, u2, u3, u4, rfl, hr, hb⟩
          go_simp
          exact hK _ _ (hr) hb
        refine StepsK.cond ?_ ?_
        · intro L U wr fB hP haf A K hFm hK
          simp [Aft, Region.binds] at haf
          have g24 : IS (.bool false) (U 77) wr := hP 24 (by simp [haf])
          have e77 : A.tmps[77]? = some (.bool false) := hFm.is 24 (by decide) g24
          have ee := e77
          refine ⟨?_⟩
          rw [if_pos (by simp [Region.wanted, yielded, ee])]
          refine Gate.out ?_
          clear ee e77 g24
          have g27 : INT cz (U 80) wr := hP 27 (by simp [haf])
          have e80 : A.tmps[80]? = some (U 80) := hFm.got 27 (by decide)
          refine ⟨?_⟩
          go_simp
          refine (text_h _ cz _ g27).mono ?_
          rintro e w1 ⟨rfl, hb⟩
          go_simp
          exact hK _ _ (rfl) hb
        refine StepsK.cond ?_ ?_
        · intro L U wr fB hP haf A K hFm hK
          simp [Aft, Region.binds] at haf
          have g24 : IS (.bool false) (U 77) wr := hP 24 (by simp [haf])
          have e77 : A.tmps[77]? = some (.bool false) := hFm.is 24 (by decide) g24
          have ee := e77
          refine ⟨?_⟩
          rw [if_pos (by simp [Region.wanted, yielded, ee])]
          refine Gate.out ?_
          clear ee e77 g24
          have e7 : A.tmps[7]? = some (.pointer (some ⟨w4.heap.size, 0, none⟩)) := (hFm.old 7 (by decide)).trans (by kernel_rfl)
          have o9 := oB.stay fB
          have c0 := Blk.cell o9 0
          have c1 := Blk.cell o9 1
          have c2 := Blk.cell o9 2
          simp at c0
          simp at c1
          simp at c2
          refine ⟨?_⟩
          go_simp
          exact hK _ _ rfl (Below.refl _ _)
        refine StepsK.cond ?_ ?_
        · intro L U wr fB hP haf A K hFm hK
          simp [Aft, Region.binds] at haf
          have g24 : IS (.bool false) (U 77) wr := hP 24 (by simp [haf])
          have e77 : A.tmps[77]? = some (.bool false) := hFm.is 24 (by decide) g24
          have ee := e77
          refine ⟨?_⟩
          rw [if_pos (by simp [Region.wanted, yielded, ee])]
          refine Gate.out ?_
          clear ee e77 g24
          have e1 : A.tmps[1]? = some (.int .i64 v) := (hFm.old 1 (by decide)).trans (by kernel_rfl)
          refine ⟨?_⟩
          go_simp
          exact hK _ _ rfl (Below.refl _ _)
        refine StepsK.cond ?_ ?_
        · intro L U wr fB hP haf A K hFm hK
          simp [Aft, Region.binds] at haf
          have g24 : IS (.bool false) (U 77) wr := hP 24 (by simp [haf])
          have e77 : A.tmps[77]? = some (.bool false) := hFm.is 24 (by decide) g24
          have ee := e77
          refine ⟨?_⟩
          rw [if_pos (by simp [Region.wanted, yielded, ee])]
          refine Gate.out ?_
          clear ee e77 g24
          have g29 : IS (.agg #[.slice pB qB rB, .bool xB, .slice aB nB cB]) (U 82) wr := hP 29 (by simp [haf])
          have e82 : A.tmps[82]? = some (.agg #[.slice pB qB rB, .bool xB, .slice aB nB cB]) := hFm.is 29 (by decide) g29
          have g30 : IS (.int .i64 v) (U 83) wr := hP 30 (by simp [haf])
          have e83 : A.tmps[83]? = some (.int .i64 v) := hFm.is 30 (by decide) g30
          have fk : KeepB w9 wr := ⟨fB⟩
          refine ⟨?_⟩
          go_simp
          refine (rcoef_2 _ qs t v cz HCZ.out _ (hB.below fk.b).val).mono ?_
          rintro e w1 ⟨u1, u2, u3, u4, rfl, hr, hb⟩
          go_simp
          exact hK _ _ (hr) hb
        refine StepsK.cond ?_ ?_
        · intro L U wr fB hP haf A K hFm hK
          simp [Aft, Region.binds] at haf
          have g24 : IS (.bool false) (U 77) wr := hP 24 (by simp [haf])
          have e77 : A.tmps[77]? = some (.bool false) := hFm.is 24 (by decide) g24
          have ee := e77
          refine ⟨?_⟩
          rw [if_pos (by simp [Region.wanted, yielded, ee])]
          refine Gate.out ?_
          clear ee e77 g24
          have g31 : RNM cz 400 (U 84) wr := hP 31 (by simp [haf])
          have e84 : A.tmps[84]? = some (U 84) := hFm.got 31 (by decide)
          refine ⟨?_⟩
          go_simp
          refine (rshow_h _ cz 400 _ g31 (by decide)).mono ?_
          rintro e w1 ⟨rfl, hb⟩
          go_simp
          exact hK _ _ (rfl) hb
        refine StepsK.cond ?_ ?_
        · intro L U wr fB hP haf A K hFm hK
          simp [Aft, Region.binds] at haf
          have g24 : IS (.bool false) (U 77) wr := hP 24 (by simp [haf])
          have e77 : A.tmps[77]? = some (.bool false) := hFm.is 24 (by decide) g24
          have ee := e77
          refine ⟨?_⟩
          rw [if_pos (by simp [Region.wanted, yielded, ee])]
          refine Gate.out ?_
          clear ee e77 g24
          have g28 : IS (.string (nT cz)) (U 81) wr := hP 28 (by simp [haf])
          have g32 : IS (.string (nT cz)) (U 85) wr := hP 32 (by simp [haf])
          have e81 : A.tmps[81]? = some (.string (nT cz)) := hFm.is 28 (by decide) g28
          have e85 : A.tmps[85]? = some (.string (nT cz)) := hFm.is 32 (by decide) g32
          refine ⟨?_⟩
          go_simp
          exact hK _ _ (rfl) (Below.refl _ _)
        refine StepsK.run rfl ?_ StepsK.nil
        · intro L U wr fB hP haf A K hFm hK
          simp [Aft, Region.binds] at haf
          have g24 : IS (.bool false) (U 77) wr := hP 24 (by simp [haf])
          have g33 : IS (.bool false) (U 86) wr := hP 33 (by simp [haf])
          have e77 : A.tmps[77]? = some (.bool false) := hFm.is 24 (by decide) g24
          have e86 : A.tmps[86]? = some (.bool false) := hFm.is 33 (by decide) g33
          refine ⟨?_⟩
          go_simp
          exact hK _ _ (rfl) (Below.refl _ _)
      intro U6 V6 fB hP
      have g34 : IS (.bool false) (U6 87) V6 := hP 34 (by decide)
      clear hP
      replace hA := hA.below fB
      replace hB := hB.below fB
      replace hVA := hVA.below fB
      replace hWY := hWY.below fB
      replace oA := oA.stay fB
      replace ltA := oA.lt
      replace oB := oB.stay fB
      replace ltB := oB.lt
      replace hbw := hbw.step fB (Nat.le_refl _)
      clear fB
      simp only [setM_some, setM_none, setM_nil]
      have e87 : U6 87 = _ := g34
      rw [e87]
      clear g34 e87
      have hBV := hWY.b
      clear hWY
      go_wp2
      go_loopw [12] (fun i wl => ∃ (k : Nat), k ≤ qB ∧ i = .int .i64 k ∧ VA wl gL k (qs.map Prod.fst) ∧ Below wc.heap.size wc wl) (fun i _ => qB - (intOf i).toNat)
      case atStart => exact ⟨0, Nat.zero_le _, rfl, hVA, hBV⟩
      case round =>
        rename World => wl
        clear oA oB hbw hA hB hVA hBV ltA ltB
        obtain ⟨k, hk, h8, hVA, hBV⟩ := hrel
        subst h8
        have oA := HOA.out.stay hBV
        have oB := HOB.out.stay hBV
        have ltA := oA.lt
        have ltB := oB.lt
        have hbw := HWC.out.step hBV (Nat.le_refl _)
        have hA := HA0.out.below hBV
        have hB := HB0.out.below hBV
        have hWY : Way wc wl := ⟨hBV⟩
        clear hBV
        by_cases h0 : k < qB
        · obtain ⟨gE, oE, sE, aE, mE, cE, had, k1, k2, k3, k4⟩ := hB.arr.at k (by rw [hB.len]; exact h0)
          subst had
          obtain ⟨pv, hpv⟩ : ∃ x9, x9 = (qs.getD k (0, 0)).1 := ⟨_, rfl⟩
          obtain ⟨pz, hpz⟩ : ∃ x9, x9 = (qs.getD k (0, 0)).2 := ⟨_, rfl⟩
          rw [← hpv] at k1
          rw [← hpz] at k4
          have HPV : Hid (qs.getD k (0, 0) = (pv, pz)) := by show _ = _; rw [hpv, hpz]
          clear hpv hpz
          have HPF : Hid (pz ≠ 0 ∧ pz.natAbs < lim ∧ pv < 4096) := HPN.out.at (by rw [hB.len]; exact h0) HPV.out
          have HCF : Hid (coefZ qs (pv : Nat) = pz) := coefZ_here HPN.out.1 (by rw [hB.len]; exact h0) HPV.out rfl
          have V0 := hVA.cell k (Nat.le_refl _) (by rw [List.length_map, hB.len]; exact h0)
          have e9 : (qs.map Prod.fst).getD k 0 = pv := by
            have h := HPV.out
            rw [List.getD_eq_getElem?_getD, List.getElem?_eq_getElem (by rw [hB.len]; exact h0)] at h
            simp only [Option.getD_some] at h
            rw [List.getD_eq_getElem?_getD, List.getElem?_map, List.getElem?_eq_getElem (by rw [hB.len]; exact h0), h]; rfl
          rw [e9] at V0
          clear e9
          go_wp2
          refine wp_region_K (by kernel_rfl) [94, 95, 96, 97, 98, 99, 100, 101, 102, 103, 104, 105, 106, 107, 108, 109, 110, 111, 112, 113, 114, 115, 116, 117, 118, 119, 120, 121] [none, none, none, none, none, none, none, none, none, none, none, none, none, none, none, none, none, none, none, none, none, none, none, none, none, none, none, none, none, none, none, none, none, none, none, none, none, none, none, none, none, none, none, none, none, none, none, none, none, none, none, none, none, none, none, none, none, none, none, none, none, none, none, none, none, none, none, none, none, none, none, none, none, none, none, none, none, none, none, none, none, none, none, none, none, none, none, none, none, none, none, none, none, none, some 94, some 95, some 96, some 97, some 98, some 99, some 100, some 101, some 102, some 103, some 104, some 105, some 106, some 107, some 108, some 109, some 110, some 111, some 112, some 113, some 114, some 115, some 116, some 117, some 118, some 119, some 120, some 121] (fun U => by kernel_rfl) [IS (.slice (some ⟨gL, 0, none⟩) qB qB), IS (.int .i64 k), IS (.pointer (some ⟨gL, k, none⟩)), IS (.int .i64 (pv : Nat)), IS (.pointer (some ⟨w4.heap.size, 0, none⟩)), IS (.slice (some ⟨gE, oE, none⟩) qB rB), IS (.int .i64 k), IS (.pointer (some ⟨gE, oE + k * 3, none⟩)), IS (.pointer (some ⟨gE, oE + k * 3, none⟩)), IS (.int .i64 (pv : Nat)), IS (.bool false), IS (.bool false), IS (.agg #[.slice pA qB rA, .bool xA, .slice aA nA cA]), IS (.slice (some ⟨gL, 0, none⟩) qB qB), IS (.int .i64 k), IS (.pointer (some ⟨gL, k, none⟩)), IS (.int .i64 (pv : Nat)), INT pz, IS (.string (nT pz)), IS (.pointer (some ⟨w4.heap.size, 0, none⟩)), IS (.slice (some ⟨gE, oE, none⟩) qB rB), IS (.int .i64 k), IS (.pointer (some ⟨gE, oE + k * 3, none⟩)), IS (.pointer (some ⟨gE, oE + k * 3 + 1, none⟩)), IS (.agg #[.bool sE, .slice aE mE cE]), IS (.string (nT pz)), IS (.bool false), IS (.bool false)] (by kernel_rfl) (by decide) (by kernel_rfl) (by kernel_rfl) ?_ ?_ ?_
          · exact (MonoL.cons mb_is (MonoL.cons mb_is (MonoL.cons mb_is (MonoL.cons mb_is (MonoL.cons mb_is (MonoL.cons mb_is (MonoL.cons mb_is (MonoL.cons mb_is (MonoL.cons mb_is (MonoL.cons mb_is (MonoL.cons mb_is (MonoL.cons mb_is (MonoL.cons mb_is (MonoL.cons mb_is (MonoL.cons mb_is (MonoL.cons mb_is (MonoL.cons mb_is (MonoL.cons mb_int (MonoL.cons mb_is (MonoL.cons mb_is (MonoL.cons mb_is (MonoL.cons mb_is (MonoL.cons mb_is (MonoL.cons mb_is (MonoL.cons mb_is (MonoL.cons mb_is (MonoL.cons mb_is (MonoL.cons mb_is MonoL.nil))))))))))))))))))))))))))))
          · refine StepsK.run rfl ?_ ?_
            · intro L U wr fB hP haf A K hFm hK
              simp [Aft, Region.binds] at haf
              have e11 : A.tmps[11]? = some (.slice (some ⟨gL, 0, none⟩) qB qB) := (hFm.old 11 (by decide)).trans (by kernel_rfl)
              refine ⟨?_⟩
              go_simp
              exact hK _ _ rfl (Below.refl _ _)
            refine StepsK.run rfl ?_ ?_
            · intro L U wr fB hP haf A K hFm hK
              simp [Aft, Region.binds] at haf
              have e12 : A.tmps[12]? = some (.int .i64 k) := (hFm.old 12 (by decide)).trans (by kernel_rfl)
              refine ⟨?_⟩
              go_simp
              exact hK _ _ rfl (Below.refl _ _)
            refine StepsK.run rfl ?_ ?_
            · intro L U wr fB hP haf A K hFm hK
              simp [Aft, Region.binds] at haf
              have g0 : IS (.slice (some ⟨gL, 0, none⟩) qB qB) (U 94) wr := hP 0 (by simp [haf])
              have g1 : IS (.int .i64 k) (U 95) wr := hP 1 (by simp [haf])
              have e94 : A.tmps[94]? = some (.slice (some ⟨gL, 0, none⟩) qB qB) := hFm.is 0 (by decide) g0
              have e95 : A.tmps[95]? = some (.int .i64 k) := hFm.is 1 (by decide) g1
              refine ⟨?_⟩
              go_simp
              exact hK _ _ (rfl) (Below.refl _ _)
            refine StepsK.run rfl ?_ ?_
            · intro L U wr fB hP haf A K hFm hK
              simp [Aft, Region.binds] at haf
              have g2 : IS (.pointer (some ⟨gL, k, none⟩)) (U 96) wr := hP 2 (by simp [haf])
              have fk : KeepB wl wr := ⟨fB⟩
              have kV0 := (fk.b.cell (p := ⟨gL, k, none⟩) (World.block_lt_of_cell? wl _ V0)).trans V0
              have e96 : A.tmps[96]? = some (.pointer (some ⟨gL, k, none⟩)) := hFm.is 2 (by decide) g2
              refine ⟨?_⟩
              go_simp
              exact hK _ _ (rfl) (Below.refl _ _)
            refine StepsK.run rfl ?_ ?_
            · intro L U wr fB hP haf A K hFm hK
              simp [Aft, Region.binds] at haf
              have e7 : A.tmps[7]? = some (.pointer (some ⟨w4.heap.size, 0, none⟩)) := (hFm.old 7 (by decide)).trans (by kernel_rfl)
              refine ⟨?_⟩
              go_simp
              exact hK _ _ rfl (Below.refl _ _)
            refine StepsK.run rfl ?_ ?_
            · intro L U wr fB hP haf A K hFm hK
              simp [Aft, Region.binds] at haf
              have g4 : IS (.pointer (some ⟨w4.heap.size, 0, none⟩)) (U 98) wr := hP 4 (by simp [haf])
              have e98 : A.tmps[98]? = some (.pointer (some ⟨w4.heap.size, 0, none⟩)) := hFm.is 4 (by decide) g4
              have o9 := oB.stay fB
              have c0 := Blk.cell o9 0
              simp at c0
              refine ⟨?_⟩
              go_simp
              exact hK _ _ rfl (Below.refl _ _)
            refine StepsK.run rfl ?_ ?_
            · intro L U wr fB hP haf A K hFm hK
              simp [Aft, Region.binds] at haf
              have e12 : A.tmps[12]? = some (.int .i64 k) := (hFm.old 12 (by decide)).trans (by kernel_rfl)
              refine ⟨?_⟩
              go_simp
              exact hK _ _ rfl (Below.refl _ _)
            refine StepsK.run rfl ?_ ?_
            · intro L U wr fB hP haf A K hFm hK
              simp [Aft, Region.binds] at haf
              have g5 : IS (.slice (some ⟨gE, oE, none⟩) qB rB) (U 99) wr := hP 5 (by simp [haf])
              have g6 : IS (.int .i64 k) (U 100) wr := hP 6 (by simp [haf])
              have e99 : A.tmps[99]? = some (.slice (some ⟨gE, oE, none⟩) qB rB) := hFm.is 5 (by decide) g5
              have e100 : A.tmps[100]? = some (.int .i64 k) := hFm.is 6 (by decide) g6
              refine ⟨?_⟩
              go_simp
              exact hK _ _ (rfl) (Below.refl _ _)
            refine StepsK.run rfl ?_ ?_
            · intro L U wr fB hP haf A K hFm hK
              simp [Aft, Region.binds] at haf
              have g7 : IS (.pointer (some ⟨gE, oE + k * 3, none⟩)) (U 101) wr := hP 7 (by simp [haf])
              have e101 : A.tmps[101]? = some (.pointer (some ⟨gE, oE + k * 3, none⟩)) := hFm.is 7 (by decide) g7
              refine ⟨?_⟩
              go_simp
              exact hK _ _ (rfl) (Below.refl _ _)
            refine StepsK.run rfl ?_ ?_
            · intro L U wr fB hP haf A K hFm hK
              simp [Aft, Region.binds] at haf
              have g8 : IS (.pointer (some ⟨gE, oE + k * 3, none⟩)) (U 102) wr := hP 8 (by simp [haf])
              have fk : KeepB wl wr := ⟨fB⟩
              have kA0 := (fk.b.cell (p := ⟨gE, oE + k * 3, none⟩) (World.block_lt_of_cell? wl _ k1)).trans k1
              have e102 : A.tmps[102]? = some (.pointer (some ⟨gE, oE + k * 3, none⟩)) := hFm.is 8 (by decide) g8
              refine ⟨?_⟩
              go_simp
              exact hK _ _ (rfl) (Below.refl _ _)
            refine StepsK.run rfl ?_ ?_
            · intro L U wr fB hP haf A K hFm hK
              simp [Aft, Region.binds] at haf
              have g3 : IS (.int .i64 (pv : Nat)) (U 97) wr := hP 3 (by simp [haf])
              have g9 : IS (.int .i64 (pv : Nat)) (U 103) wr := hP 9 (by simp [haf])
              have e97 : A.tmps[97]? = some (.int .i64 (pv : Nat)) := hFm.is 3 (by decide) g3
              have e103 : A.tmps[103]? = some (.int .i64 (pv : Nat)) := hFm.is 9 (by decide) g9
              refine ⟨?_⟩
              go_simp
              exact hK _ _ (rfl) (Below.refl _ _)
            refine StepsK.run rfl ?_ ?_
            · intro L U wr fB hP haf A K hFm hK
              simp [Aft, Region.binds] at haf
              have g10 : IS (.bool false) (U 104) wr := hP 10 (by simp [haf])
              have e104 : A.tmps[104]? = some (.bool false) := hFm.is 10 (by decide) g10
              refine ⟨?_⟩
              go_simp
              exact hK _ _ (rfl) (Below.refl _ _)
            refine StepsK.cond ?_ ?_
            · intro L U wr fB hP haf A K hFm hK
              simp [Aft, Region.binds] at haf
              have g11 : IS (.bool false) (U 105) wr := hP 11 (by simp [haf])
              have e105 : A.tmps[105]? = some (.bool false) := hFm.is 11 (by decide) g11
              have ee := e105
              refine ⟨?_⟩
              rw [if_pos (by simp [Region.wanted, yielded, ee])]
              refine Gate.out ?_
              clear ee e105 g11
              have e5 : A.tmps[5]? = some (.pointer (some ⟨w3.heap.size, 0, none⟩)) := (hFm.old 5 (by decide)).trans (by kernel_rfl)
              have o9 := oA.stay fB
              have c0 := Blk.cell o9 0
              have c1 := Blk.cell o9 1
              have c2 := Blk.cell o9 2
              simp at c0
              simp at c1
              simp at c2
              refine ⟨?_⟩
              go_simp
              exact hK _ _ rfl (Below.refl _ _)
            refine StepsK.cond ?_ ?_
            · intro L U wr fB hP haf A K hFm hK
              simp [Aft, Region.binds] at haf
              have g11 : IS (.bool false) (U 105) wr := hP 11 (by simp [haf])
              have e105 : A.tmps[105]? = some (.bool false) := hFm.is 11 (by decide) g11
              have ee := e105
              refine ⟨?_⟩
              rw [if_pos (by simp [Region.wanted, yielded, ee])]
              refine Gate.out ?_
              clear ee e105 g11
              have e11 : A.tmps[11]? = some (.slice (some ⟨gL, 0, none⟩) qB qB) := (hFm.old 11 (by decide)).trans (by kernel_rfl)
              refine ⟨?_⟩
              go_simp
              exact hK _ _ rfl (Below.refl _ _)
            refine StepsK.cond ?_ ?_
            · intro L U wr fB hP haf A K hFm hK
              simp [Aft, Region.binds] at haf
              have g11 : IS (.bool false) (U 105) wr := hP 11 (by simp [haf])
              have e105 : A.tmps[105]? = some (.bool false) := hFm.is 11 (by decide) g11
              have ee := e105
              refine ⟨?_⟩
              rw [if_pos (by simp [Region.wanted, yielded, ee])]
              refine Gate.out ?_
              clear ee e105 g11
              have e12 : A.tmps[12]? = some (.int .i64 k) := (hFm.old 12 (by decide)).trans (by kernel_rfl)
              refine ⟨?_⟩
              go_simp
              exact hK _ _ rfl (Below.refl _ _)
            refine StepsK.cond ?_ ?_
            · intro L U wr fB hP haf A K hFm hK
              simp [Aft, Region.binds] at haf
              have g11 : IS (.bool false) (U 105) wr := hP 11 (by simp [haf])
              have e105 : A.tmps[105]? = some (.bool false) := hFm.is 11 (by decide) g11
              have ee := e105
              refine ⟨?_⟩
              rw [if_pos (by simp [Region.wanted, yielded, ee])]
              refine Gate.out ?_
              clear ee e105 g11
              have g13 : IS (.slice (some ⟨gL, 0, none⟩) qB qB) (U 107) wr := hP 13 (by simp [haf])
              have g14 : IS (.int .i64 k) (U 108) wr := hP 14 (by simp [haf])
              have e107 : A.tmps[107]? = some (.slice (some ⟨gL, 0, none⟩) qB qB) := hFm.is 13 (by decide) g13
              have e108 : A.tmps[108]? = some (.int .i64 k) := hFm.is 14 (by decide) g14
              refine ⟨?_⟩
              go_simp
              exact hK _ _ (rfl) (Below.refl _ _)
            refine StepsK.cond ?_ ?_
            · intro L U wr fB hP haf A K hFm hK
              simp [Aft, Region.binds] at haf
              have g11 : IS (.bool false) (U 105) wr := hP 11 (by simp [haf])
              have e105 : A.tmps[105]? = some (.bool false) := hFm.is 11 (by decide) g11
              have ee := e105
              refine ⟨?_⟩
              rw [if_pos (by simp [Region.wanted, yielded, ee])]
              refine Gate.out ?_
              clear ee e105 g11
              have g15 : IS (.pointer (some ⟨gL, k, none⟩)) (U 109) wr := hP 15 (by simp [haf])
              have fk : KeepB wl wr := ⟨fB⟩
              have kV0 := (fk.b.cell (p := ⟨gL, k, none⟩) (World.block_lt_of_cell? wl _ V0)).trans V0
              have e109 : A.tmps[109]? = some (.pointer (some ⟨gL, k, none⟩)) := hFm.is 15 (by decide) g15
              refine ⟨?_⟩
              go_simp
              exact hK _ _ (rfl) (Below.refl _ _)
            refine StepsK.cond ?_ ?_
            · intro L U wr fB hP haf A K hFm hK
              simp [Aft, Region.binds] at haf
              have g11 : IS (.bool false) (U 105) wr := hP 11 (by simp [haf])
              have e105 : A.tmps[105]? = some (.bool false) := hFm.is 11 (by decide) g11
              have ee := e105
              refine ⟨?_⟩
              rw [if_pos (by simp [Region.wanted, yielded, ee])]
              refine Gate.out ?_
              clear ee e105 g11
              have g12 : IS (.agg #[.slice pA qB rA, .bool xA, .slice aA nA cA]) (U 106) wr := hP 12 (by simp [haf])
              have e106 : A.tmps[106]? = some (.agg #[.slice pA qB rA, .bool xA, .slice aA nA cA]) := hFm.is 12 (by decide) g12
              have g16 : IS (.int .i64 (pv : Nat)) (U 110) wr := hP 16 (by simp [haf])
              have e110 : A.tmps[110]? = some (.int .i64 (pv : Nat)) := hFm.is 16 (by decide) g16
              have fk : KeepB wl wr := ⟨fB⟩
              refine ⟨?_⟩
              go_simp
              refine (lcoef_2 _ qs t (pv : Nat) pz HCF.out _ (hA.below fk.b).val).mono ?_
              rintro e w1 ⟨u1, u2, u3, u4, rfl, hr, hb⟩
              go_simp
              exact hK _ _ (hr) hb
            refine StepsK.cond ?_ ?_
            · intro L U wr fB hP haf A K hFm hK
              simp [Aft, Region.binds] at haf
              have g11 : IS (.bool false) (U 105) wr := hP 11 (by simp [haf])
              have e105 : A.tmps[105]? = some (.bool false) := hFm.is 11 (by decide) g11
              have ee := e105
              refine ⟨?_⟩
              rw [if_pos (by simp [Region.wanted, yielded, ee])]
              refine Gate.out ?_
              clear ee e105 g11
              have g17 : INT pz (U 111) wr := hP 17 (by simp [haf])
              have e111 : A.tmps[111]? = some (U 111) := hFm.got 17 (by decide)
              refine ⟨?_⟩
              go_simp
              refine (text_h _ pz _ g17).mono ?_
              rintro e w1 ⟨rfl, hb⟩
              go_simp
              exact hK _ _ (rfl) hb
            refine StepsK.cond ?_ ?_
            · intro L U wr fB hP haf A K hFm hK
              simp [Aft, Region.binds] at haf
              have g11 : IS (.bool false) (U 105) wr := hP 11 (by simp [haf])
              have e105 : A.tmps[105]? = some (.bool false) := hFm.is 11 (by decide) g11
              have ee := e105
              refine ⟨?_⟩
              rw [if_pos (by simp [Region.wanted, yielded, ee])]
              refine Gate.out ?_
              clear ee e105 g11
              have e7 : A.tmps[7]? = some (.pointer (some ⟨w4.heap.size, 0, none⟩)) := (hFm.old 7 (by decide)).trans (by kernel_rfl)
              refine ⟨?_⟩
              go_simp
              exact hK _ _ rfl (Below.refl _ _)
            refine StepsK.cond ?_ ?_
            · intro L U wr fB hP haf A K hFm hK
              simp [Aft, Region.binds] at haf
              have g11 : IS (.bool false) (U 105) wr := hP 11 (by simp [haf])
              have e105 : A.tmps[105]? = some (.bool false) := hFm.is 11 (by decide) g11
              have ee := e105
              refine ⟨?_⟩
              rw [if_pos (by simp [Region.wanted, yielded, ee])]
              refine Gate.out ?_
              clear ee e105 g11
              have g19 : IS (.pointer (some ⟨w4.heap.size, 0, none⟩)) (U 113) wr := hP 19 (by simp [haf])
              have e113 : A.tmps[113]? = some (.pointer (some ⟨w4.heap.size, 0, none⟩)) := hFm.is 19 (by decide) g19
              have o9 := oB.stay fB
              have c0 := Blk.cell o9 0
              simp at c0
              refine ⟨?_⟩
              go_simp
              exact hK _ _ rfl (Below.refl _ _)
            refine StepsK.cond ?_ ?_
            · intro L U wr fB hP haf A K hFm hK
              simp [Aft, Region.binds] at haf
              have g11 : IS (.bool false) (U 105) wr := hP 11 (by simp [haf])
              have e105 : A.tmps[105]? = some (.bool false) := hFm.is 11 (by decide) g11
              have ee := e105
              refine ⟨?_⟩
              rw [if_pos (by simp [Region.wanted, yielded, ee])]
              refine Gate.out ?_
              clear ee e105 g11
              have e12 : A.tmps[12]? = some (.int .i64 k) := (hFm.old 12 (by decide)).trans (by kernel_rfl)
              refine ⟨?_⟩
              go_simp
              exact hK _ _ rfl (Below.refl _ _)
            refine StepsK.cond ?_ ?_
            · intro L U wr fB hP haf A K hFm hK
              simp [Aft, Region.binds] at haf
              have g11 : IS (.bool false) (U 105) wr := hP 11 (by simp [haf])
              have e105 : A.tmps[105]? = some (.bool false) := hFm.is 11 (by decide) g11
              have ee := e105
              refine ⟨?_⟩
              rw [if_pos (by simp [Region.wanted, yielded, ee])]
              refine Gate.out ?_
              clear ee e105 g11
              have g20 : IS (.slice (some ⟨gE, oE, none⟩) qB rB) (U 114) wr := hP 20 (by simp [haf])
              have g21 : IS (.int .i64 k) (U 115) wr := hP 21 (by simp [haf])
              have e114 : A.tmps[114]? = some (.slice (some ⟨gE, oE, none⟩) qB rB) := hFm.is 20 (by decide) g20
              have e115 : A.tmps[115]? = some (.int .i64 k) := hFm.is 21 (by decide) g21
              refine ⟨?_⟩
              go_simp
              exact hK _ _ (rfl) (Below.refl _ _)
            refine StepsK.cond ?_ ?_
            · intro L U wr fB hP haf A K hFm hK
              simp [Aft, Region.binds] at haf
              have g11 : IS (.bool false) (U 105) wr := hP 11 (by simp [haf])
              have e105 : A.tmps[105]? = some (.bool false) := hFm.is 11 (by decide) g11
              have ee := e105
              refine ⟨?_⟩
              rw [if_pos (by simp [Region.wanted, yielded, ee])]
              refine Gate.out ?_
              clear ee e105 g11
              have g22 : IS (.pointer (some ⟨gE, oE + k * 3, none⟩)) (U 116) wr := hP 22 (by simp [haf])
              have e116 : A.tmps[116]? = some (.pointer (some ⟨gE, oE + k * 3, none⟩)) := hFm.is 22 (by decide) g22
              refine ⟨?_⟩
              go_simp
              exact hK _ _ (rfl) (Below.refl _ _)
            refine StepsK.cond ?_ ?_
            · intro L U wr fB hP haf A K hFm hK
              simp [Aft, Region.binds] at haf
              have g11 : IS (.bool false) (U 105) wr := hP 11 (by simp [haf])
              have e105 : A.tmps[105]? = some (.bool false) := hFm.is 11 (by decide) g11
              have ee := e105
              refine ⟨?_⟩
              rw [if_pos (by simp [Region.wanted, yielded, ee])]
              refine Gate.out ?_
              clear ee e105 g11
              have g23 : IS (.pointer (some ⟨gE, oE + k * 3 + 1, none⟩)) (U 117) wr := hP 23 (by simp [haf])
              have fk : KeepB wl wr := ⟨fB⟩
              have kA1 := (fk.b.cell (p := ⟨gE, oE + k * 3 + 1, none⟩) (World.block_lt_of_cell? wl _ k2)).trans k2
              have kA2 := (fk.b.cell (p := ⟨gE, oE + k * 3 + 2, none⟩) (World.block_lt_of_cell? wl _ k3)).trans k3
              have e117 : A.tmps[117]? = some (.pointer (some ⟨gE, oE + k * 3 + 1, none⟩)) := hFm.is 23 (by decide) g23
              refine ⟨?_⟩
              go_simp
              exact hK _ _ (rfl) (Below.refl _ _)
            refine StepsK.cond ?_ ?_
            · intro L U wr fB hP haf A K hFm hK
              simp [Aft, Region.binds] at haf
              have g11 : IS (.bool false) (U 105) wr := hP 11 (by simp [haf])
              have e105 : A.tmps[105]? = some (.bool false) := hFm.is 11 (by decide) g11
              have ee := e105
              refine ⟨?_⟩
              rw [if_pos (by simp [Region.wanted, yielded, ee])]
              refine Gate.out ?_
              clear ee e105 g11
              have g24 : IS (.agg #[.bool sE, .slice aE mE cE]) (U 118) wr := hP 24 (by simp [haf])
              have e118 : A.tmps[118]? = some (.agg #[.bool sE, .slice aE mE cE]) := hFm.is 24 (by decide) g24
              have fk : KeepB wl wr := ⟨fB⟩
              refine ⟨?_⟩
              go_simp
              refine (rshow_h _ pz 900 _ (k4.below fk.b) (by decide)).mono ?_
              rintro e w1 ⟨rfl, hb⟩
              go_simp
              exact hK _ _ (rfl) hb
            refine StepsK.cond ?_ ?_
            · intro L U wr fB hP haf A K hFm hK
              simp [Aft, Region.binds] at haf
              have g11 : IS (.bool false) (U 105) wr := hP 11 (by simp [haf])
              have e105 : A.tmps[105]? = some (.bool false) := hFm.is 11 (by decide) g11
              have ee := e105
              refine ⟨?_⟩
              rw [if_pos (by simp [Region.wanted, yielded, ee])]
              refine Gate.out ?_
              clear ee e105 g11
              have g18 : IS (.string (nT pz)) (U 112) wr := hP 18 (by simp [haf])
              have g25 : IS (.string (nT pz)) (U 119) wr := hP 25 (by simp [haf])
              have e112 : A.tmps[112]? = some (.string (nT pz)) := hFm.is 18 (by decide) g18
              have e119 : A.tmps[119]? = some (.string (nT pz)) := hFm.is 25 (by decide) g25
              refine ⟨?_⟩
              go_simp
              exact hK _ _ (rfl) (Below.refl _ _)
            refine StepsK.run rfl ?_ StepsK.nil
            · intro L U wr fB hP haf A K hFm hK
              simp [Aft, Region.binds] at haf
              have g11 : IS (.bool false) (U 105) wr := hP 11 (by simp [haf])
              have g26 : IS (.bool false) (U 120) wr := hP 26 (by simp [haf])
              have e105 : A.tmps[105]? = some (.bool false) := hFm.is 11 (by decide) g11
              have e120 : A.tmps[120]? = some (.bool false) := hFm.is 26 (by decide) g26
              refine ⟨?_⟩
              go_simp
              exact hK _ _ (rfl) (Below.refl _ _)
          intro U7 V7 fB hP
          have g27 : IS (.bool false) (U7 121) V7 := hP 27 (by decide)
          clear hP
          replace hA := hA.below fB
          replace hB := hB.below fB
          replace hVA := hVA.below fB
          replace hWY := hWY.below fB
          replace oA := oA.stay fB
          replace ltA := oA.lt
          replace oB := oB.stay fB
          replace ltB := oB.lt
          replace hbw := hbw.step fB (Nat.le_refl _)
          clear fB
          simp only [setM_some, setM_none, setM_nil]
          have e121 : U7 121 = _ := g27
          rw [e121]
          clear g27 e121
          have c9 := hVA.cell k (Nat.le_refl _) (by rw [List.length_map, hB.len]; exact h0)
          have f9 := hVA.frozen k
          have hVA2 := hVA.set (.int .i64 (-9))
          have hBV2 := hWY.b.setCell (p := ⟨gL, k, none⟩) HGL.out (.int .i64 (-9))
          go_wp2
          go_roundw
          case rel => exact ⟨k + 1, by omega, by go_num, hVA2, hBV2⟩
          case measure => simp [intOf]; omega
        · go_wp2
          refine wp_region_K (by kernel_rfl) [125, 126, 127, 128, 129, 130, 131, 132, 133, 134, 135, 136, 137, 138, 139, 4] [none, none, none, none, some 4, none, none, none, none, none, none, none, none, none, none, none, none, none, none, none, none, none, none, none, none, none, none, none, none, none, none, none, none, none, none, none, none, none, none, none, none, none, none, none, none, none, none, none, none, none, none, none, none, none, none, none, none, none, none, none, none, none, none, none, none, none, none, none, none, none, none, none, none, none, none, none, none, none, none, none, none, none, none, none, none, none, none, none, none, none, none, none, none, none, none, none, none, none, none, none, none, none, none, none, none, none, none, none, none, none, none, none, none, none, none, none, none, none, none, none, none, none, none, none, none, some 125, some 126, some 127, some 128, some 129, some 130, some 131, some 132, some 133, some 134, some 135, some 136, some 137, some 138, some 139] (fun U => by kernel_rfl) [IS (.agg #[.slice pA qB rA, .bool xA, .slice aA nA cA]), INT (cm qs), IS (.string (nT (cm qs))), IS (.pointer (some ⟨w4.heap.size, 0, none⟩)), IS (.slice pB qB rB), RNM (cm qs) 400, IS (.string (nT (cm qs))), IS (.bool true), IS (.bool true), IS (.agg #[.slice pA qB rA, .bool xA, .slice aA nA cA]), IS (.string (tT qs t)), IS (.agg #[.slice pB qB rB, .bool xB, .slice aB nB cB]), IS (.string (tT qs t)), IS (.bool true), IS (.bool true), IS (.bool true)] (by kernel_rfl) (by decide) (by kernel_rfl) (by kernel_rfl) ?_ ?_ ?_
          · exact (MonoL.cons mb_is (MonoL.cons mb_int (MonoL.cons mb_is (MonoL.cons mb_is (MonoL.cons mb_is (MonoL.cons mb_rnm (MonoL.cons mb_is (MonoL.cons mb_is (MonoL.cons mb_is (MonoL.cons mb_is (MonoL.cons mb_is (MonoL.cons mb_is (MonoL.cons mb_is (MonoL.cons mb_is (MonoL.cons mb_is (MonoL.cons mb_is MonoL.nil))))))))))))))))
          · refine StepsK.run rfl ?_ ?_
            · intro L U wr fB hP haf A K hFm hK
              simp [Aft, Region.binds] at haf
              have e5 : A.tmps[5]? = some (.pointer (some ⟨w3.heap.size, 0, none⟩)) := (hFm.old 5 (by decide)).trans (by kernel_rfl)
              have o9 := oA.stay fB
              have c0 := Blk.cell o9 0
              have c1 := Blk.cell o9 1
              have c2 := Blk.cell o9 2
              simp at c0
              simp at c1
              simp at c2
              refine ⟨?_⟩
              go_simp
              exact hK _ _ rfl (Below.refl _ _)
            refine StepsK.run rfl ?_ ?_
            · intro L U wr fB hP haf A K hFm hK
              simp [Aft, Region.binds] at haf
              have g0 : IS (.agg #[.slice pA qB rA, .bool xA, .slice aA nA cA]) (U 125) wr := hP 0 (by simp [haf])
              have e125 : A.tmps[125]? = some (.agg #[.slice pA qB rA, .bool xA, .slice aA nA cA]) := hFm.is 0 (by decide) g0
              have fk : KeepB wl wr := ⟨fB⟩
              refine ⟨?_⟩
              go_simp
              refine (common_any _ qs t _ (hA.below fk.b).val).mono ?_
              rintro e w1 ⟨u1, u2, u3, u4, rfl, hr, hb⟩
              go_simp
              exact hK _ _ (hr) hb
            refine StepsK.run rfl ?_ ?_
            · intro L U wr fB hP haf A K hFm hK
              simp [Aft, Region.binds] at haf
              have g1 : INT (cm qs) (U 126) wr := hP 1 (by simp [haf])
              have e126 : A.tmps[126]? = some (U 126) := hFm.got 1 (by decide)
              refine ⟨?_⟩
              go_simp
              refine (text_h _ (cm qs) _ g1).mono ?_
              rintro e w1 ⟨rfl, hb⟩
              go_simp
              exact hK _ _ (rfl) hb
            refine StepsK.run rfl ?_ ?_
            · intro L U wr fB hP haf A K hFm hK
              simp [Aft, Region.binds] at haf
              have e7 : A.tmps[7]? = some (.pointer (some ⟨w4.heap.size, 0, none⟩)) := (hFm.old 7 (by decide)).trans (by kernel_rfl)
              refine ⟨?_⟩
              go_simp
              exact hK _ _ rfl (Below.refl _ _)
            refine StepsK.run rfl ?_ ?_
            · intro L U wr fB hP haf A K hFm hK
              simp [Aft, Region.binds] at haf
              have g3 : IS (.pointer (some ⟨w4.heap.size, 0, none⟩)) (U 128) wr := hP 3 (by simp [haf])
              have e128 : A.tmps[128]? = some (.pointer (some ⟨w4.heap.size, 0, none⟩)) := hFm.is 3 (by decide) g3
              have o9 := oB.stay fB
              have c0 := Blk.cell o9 0
              simp at c0
              refine ⟨?_⟩
              go_simp
              exact hK _ _ rfl (Below.refl _ _)
            refine StepsK.run rfl ?_ ?_
            · intro L U wr fB hP haf A K hFm hK
              simp [Aft, Region.binds] at haf
              have g4 : IS (.slice pB qB rB) (U 129) wr := hP 4 (by simp [haf])
              have e129 : A.tmps[129]? = some (.slice pB qB rB) := hFm.is 4 (by decide) g4
              have fk : KeepB wl wr := ⟨fB⟩
              refine ⟨?_⟩
              go_simp
              refine (rcommon_any pB qB rB qs _ (hB.below fk.b).arr hB.len HPN.out).mono ?_
              rintro e w1 ⟨u1, u2, u3, u4, rfl, hr, hb⟩
              go_simp
              exact hK _ _ (hr) hb
            refine StepsK.run rfl ?_ ?_
            · intro L U wr fB hP haf A K hFm hK
              simp [Aft, Region.binds] at haf
              have g5 : RNM (cm qs) 400 (U 130) wr := hP 5 (by simp [haf])
              have e130 : A.tmps[130]? = some (U 130) := hFm.got 5 (by decide)
              refine ⟨?_⟩
              go_simp
              refine (rshow_h _ (cm qs) 400 _ g5 (by decide)).mono ?_
              rintro e w1 ⟨rfl, hb⟩
              go_simp
              exact hK _ _ (rfl) hb
            refine StepsK.run rfl ?_ ?_
            · intro L U wr fB hP haf A K hFm hK
              simp [Aft, Region.binds] at haf
              have g2 : IS (.string (nT (cm qs))) (U 127) wr := hP 2 (by simp [haf])
              have g6 : IS (.string (nT (cm qs))) (U 131) wr := hP 6 (by simp [haf])
              have e127 : A.tmps[127]? = some (.string (nT (cm qs))) := hFm.is 2 (by decide) g2
              have e131 : A.tmps[131]? = some (.string (nT (cm qs))) := hFm.is 6 (by decide) g6
              refine ⟨?_⟩
              go_simp
              exact hK _ _ (rfl) (Below.refl _ _)
            refine StepsK.run rfl ?_ ?_
            · intro L U wr fB hP haf A K hFm hK
              simp [Aft, Region.binds] at haf
              have g7 : IS (.bool true) (U 132) wr := hP 7 (by simp [haf])
              have e132 : A.tmps[132]? = some (.bool true) := hFm.is 7 (by decide) g7
              refine ⟨?_⟩
              go_simp
              exact hK _ _ (rfl) (Below.refl _ _)
            refine StepsK.cond ?_ ?_
            · intro L U wr fB hP haf A K hFm hK
              simp [Aft, Region.binds] at haf
              have g8 : IS (.bool true) (U 133) wr := hP 8 (by simp [haf])
              have e133 : A.tmps[133]? = some (.bool true) := hFm.is 8 (by decide) g8
              have ee := e133
              refine ⟨?_⟩
              rw [if_pos (by simp [Region.wanted, yielded, ee])]
              refine Gate.out ?_
              clear ee e133 g8
              have e5 : A.tmps[5]? = some (.pointer (some ⟨w3.heap.size, 0, none⟩)) := (hFm.old 5 (by decide)).trans (by kernel_rfl)
              have o9 := oA.stay fB
              have c0 := Blk.cell o9 0
              have c1 := Blk.cell o9 1
              have c2 := Blk.cell o9 2
              simp at c0
              simp at c1
              simp at c2
              refine ⟨?_⟩
              go_simp
              exact hK _ _ rfl (Below.refl _ _)
            refine StepsK.cond ?_ ?_
            · intro L U wr fB hP haf A K hFm hK
              simp [Aft, Region.binds] at haf
              have g8 : IS (.bool true) (U 133) wr := hP 8 (by simp [haf])
              have e133 : A.tmps[133]? = some (.bool true) := hFm.is 8 (by decide) g8
              have ee := e133
              refine ⟨?_⟩
              rw [if_pos (by simp [Region.wanted, yielded, ee])]
              refine Gate.out ?_
              clear ee e133 g8
              have g9 : IS (.agg #[.slice pA qB rA, .bool xA, .slice aA nA cA]) (U 134) wr := hP 9 (by simp [haf])
              have e134 : A.tmps[134]? = some (.agg #[.slice pA qB rA, .bool xA, .slice aA nA cA]) := hFm.is 9 (by decide) g9
              have fk : KeepB wl wr := ⟨fB⟩
              have fb := hbw.step fB (Nat.le_refl _)
              refine ⟨?_⟩
              go_simp
              refine (ltext_any _ qs t _ (hA.below fk.b).val (HTB.out.below fb)).mono ?_
              rintro e w1 ⟨rfl, hb⟩
              go_simp
              exact hK _ _ (rfl) hb
            refine StepsK.cond ?_ ?_
            · intro L U wr fB hP haf A K hFm hK
              simp [Aft, Region.binds] at haf
              have g8 : IS (.bool true) (U 133) wr := hP 8 (by simp [haf])
              have e133 : A.tmps[133]? = some (.bool true) := hFm.is 8 (by decide) g8
              have ee := e133
              refine ⟨?_⟩
              rw [if_pos (by simp [Region.wanted, yielded, ee])]
              refine Gate.out ?_
              clear ee e133 g8
              have e7 : A.tmps[7]? = some (.pointer (some ⟨w4.heap.size, 0, none⟩)) := (hFm.old 7 (by decide)).trans (by kernel_rfl)
              have o9 := oB.stay fB
              have c0 := Blk.cell o9 0
              have c1 := Blk.cell o9 1
              have c2 := Blk.cell o9 2
              simp at c0
              simp at c1
              simp at c2
              refine ⟨?_⟩
              go_simp
              exact hK _ _ rfl (Below.refl _ _)
            refine StepsK.cond ?_ ?_
            · intro L U wr fB hP haf A K hFm hK
              simp [Aft, Region.binds] at haf
              have g8 : IS (.bool true) (U 133) wr := hP 8 (by simp [haf])
              have e133 : A.tmps[133]? = some (.bool true) := hFm.is 8 (by decide) g8
              have ee := e133
              refine ⟨?_⟩
              rw [if_pos (by simp [Region.wanted, yielded, ee])]
              refine Gate.out ?_
              clear ee e133 g8
              have g11 : IS (.agg #[.slice pB qB rB, .bool xB, .slice aB nB cB]) (U 136) wr := hP 11 (by simp [haf])
              have e136 : A.tmps[136]? = some (.agg #[.slice pB qB rB, .bool xB, .slice aB nB cB]) := hFm.is 11 (by decide) g11
              have fk : KeepB wl wr := ⟨fB⟩
              refine ⟨?_⟩
              go_simp
              refine (rtext_any _ qs t _ (hB.below fk.b).val).mono ?_
              rintro e w1 ⟨rfl, hb⟩
              go_simp
              exact hK _ _ (rfl) hb
            refine StepsK.cond ?_ ?_
            · intro L U wr fB hP haf A K hFm hK
              simp [Aft, Region.binds] at haf
              have g8 : IS (.bool true) (U 133) wr := hP 8 (by simp [haf])
              have e133 : A.tmps[133]? = some (.bool true) := hFm.is 8 (by decide) g8
              have ee := e133
              refine ⟨?_⟩
              rw [if_pos (by simp [Region.wanted, yielded, ee])]
              refine Gate.out ?_
              clear ee e133 g8
              have g10 : IS (.string (tT qs t)) (U 135) wr := hP 10 (by simp [haf])
              have g12 : IS (.string (tT qs t)) (U 137) wr := hP 12 (by simp [haf])
              have e135 : A.tmps[135]? = some (.string (tT qs t)) := hFm.is 10 (by decide) g10
              have e137 : A.tmps[137]? = some (.string (tT qs t)) := hFm.is 12 (by decide) g12
              refine ⟨?_⟩
              go_simp
              exact hK _ _ (rfl) (Below.refl _ _)
            refine StepsK.run rfl ?_ ?_
            · intro L U wr fB hP haf A K hFm hK
              simp [Aft, Region.binds] at haf
              have g8 : IS (.bool true) (U 133) wr := hP 8 (by simp [haf])
              have g13 : IS (.bool true) (U 138) wr := hP 13 (by simp [haf])
              have e133 : A.tmps[133]? = some (.bool true) := hFm.is 8 (by decide) g8
              have e138 : A.tmps[138]? = some (.bool true) := hFm.is 13 (by decide) g13
              refine ⟨?_⟩
              go_simp
              exact hK _ _ (rfl) (Below.refl _ _)
            refine StepsK.run rfl ?_ StepsK.nil
            · intro L U wr fB hP haf A K hFm hK
              simp [Aft, Region.binds] at haf
              have g14 : IS (.bool true) (U 139) wr := hP 14 (by simp [haf])
              have e139 : A.tmps[139]? = some (.bool true) := hFm.is 14 (by decide) g14
              refine ⟨?_⟩
              go_simp
              exact hK _ _ (rfl) (Below.refl _ _)
          intro U7 V7 fB hP
          have g15 : IS (.bool true) (U7 4) V7 := hP 15 (by decide)
          clear hP
          replace hA := hA.below fB
          replace hB := hB.below fB
          replace hVA := hVA.below fB
          replace hWY := hWY.below fB
          replace oA := oA.stay fB
          replace ltA := oA.lt
          replace oB := oB.stay fB
          replace ltB := oB.lt
          replace hbw := hbw.step fB (Nat.le_refl _)
          clear fB
          simp only [setM_some, setM_none, setM_nil]
          have e4 : U7 4 = _ := g15
          try simp only []
          try go_at_K
          repeat (first | go_values | go_skip | go_guarded | go_step | go_upon)
          refine bodyPost_ret (v := .bool true) (by simp [results, Tryz.results4, go_sem, e4]) rfl ?_
          exact ⟨rfl, hbw⟩

end Go.Proofs.YteefniagebcagaaGreatDoor
