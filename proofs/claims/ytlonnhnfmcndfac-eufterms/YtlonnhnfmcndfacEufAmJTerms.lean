/- The contract of meeting; it proves no statement of the seat. -/
import Derived.Test.YtlonnhnfmcndfacEufAsJTerms
namespace Go.Proofs.Ytlonnhnfmcndfac
open Go.RowKit
set_option linter.unusedVariables false
namespace Euf
def psF (ps : Nat → Bool) : Value → Bool
  | .int .i64 z => if 0 ≤ z then ps z.toNat else false
  | _ => false
theorem psF_at (ps : Nat → Bool) (i : Nat) : psF ps (.int .i64 (i : Nat)) = ps i := by simp [psF]
theorem psF_true {ps : Nat → Bool} {v : Value} (h : psF ps v = true) : ∃ i : Nat, v = .int .i64 (i : Nat) ∧ ps i = true := by
  unfold psF at h
  split at h
  · rename_i x
    split at h
    · rename_i hx
      exact ⟨x.toNat, by rw [Int.toNat_of_nonneg hx], h⟩
    · cases h
  · cases h
theorem psF_other {ps ps' : Nat → Bool} {i : Nat} (h : ∀ k, k ≠ i → ps' k = ps k) : ∀ v, v ≠ Value.int .i64 (i : Nat) → psF ps' v = psF ps v := by
  intro v hv
  unfold psF
  split
  · rename_i x
    split
    · rename_i hx
      rw [h x.toNat (fun e => hv (by rw [← e, Int.toNat_of_nonneg hx]))]
    · rfl
  · rfl
theorem uPass : Try.prog.underlying 111 = some (.map 3 109) := by kernel_rfl
theorem zUnit (w : World) : (zeroValue 109).run Try.prog w = .ok (.agg #[]) w := by kernel_rfl
theorem pass_put {w : World} {b N : Nat} {ps : Nat → Bool} (h : MapS Try.prog 3 w b N (psF ps)) (k : Nat) (hk : k < N) (hN : N ≤ 10000) (hp : ∀ i, ps i = true → i < N) : ∃ w', (Instr.mapUpdate 111 (.map (some b)) (.int .i64 (k : Nat)) (.agg #[])).run Try.prog w = .ok () w' ∧ MapS Try.prog 3 w' b N (psF (fun i => i == k || ps i)) ∧ w.mapTurned w' b := by
  obtain ⟨w', hrun, hm, ht⟩ := h.put lawInt uPass (by unfold maxLen; omega) (keyInt (n := k) (by omega)) (psF (fun i => i == k || ps i)) (by rw [psF_at]; simp) (psF_other (fun i hi => by simp [hi]))
  refine ⟨w', hrun, hm.tightBy lawInt N (fun v => match v with | .int _ z => z.toNat | _ => 0) (fun v hv => ?_) (fun v v' hv hv' e => ?_), ht⟩
  · obtain ⟨i, rfl, h1⟩ := psF_true hv
    show (Int.toNat (i : Int)) < N
    rw [Int.toNat_natCast]
    simp at h1
    rcases h1 with rfl | h1
    · exact hk
    · exact hp i h1
  · obtain ⟨i, rfl, h1⟩ := psF_true hv
    obtain ⟨j, rfl, h2⟩ := psF_true hv'
    have e2 : Int.toNat (i : Int) = Int.toNat (j : Int) := e
    rw [Int.toNat_natCast, Int.toNat_natCast] at e2
    rw [e2]
/-- The measure of a part's way up. -/
theorem next_ups {ns : Nat} {S : Nat → Spot} {G : Nat → Prop} {k n : Nat} {a : Int} (hn : Ups S (k : Int) n) (h : Next ns S G k a) : ∃ m, Ups S a m ∧ m < n := by
  obtain ⟨m, e, hm⟩ := hn.nat
  rcases h with ⟨rfl, _⟩ | ⟨k', y, rfl, _, h1, h2, _⟩
  · exact ⟨0, .top, by omega⟩
  · rw [h1] at hm
    obtain ⟨q, hq, h3, _⟩ := h2.short hm
    exact ⟨q, hq, by omega⟩

set_option maxRecDepth 20000 in
set_option maxHeartbeats 16000000 in
theorem meeting_any (p g : Nat) (x : Ax) (c : Ac) (d : Gd) (a b : Nat) (w : World) (h : EX w p g x c d) (hI : Inv d.f.np d.f.P d.s.ns d.s.S d.s.sg [] []) (hab : AbOk d.s.ns d.s.S c.ab) (ha : a < d.s.ns) (hb : b < d.s.ns) (hr : ∃ r, Anc d.s.S a r ∧ Anc d.s.S b r) :
    Calls Try.prog 34 #[.pointer (some ⟨p, 0, none⟩), .int .i64 (a : Nat), .int .i64 (b : Nat)] w fun e w' => ∃ M : Nat, e = .returned (.int .i64 (M : Nat)) ∧ M < d.s.ns ∧ Anc d.s.S a M ∧ Anc d.s.S b M ∧ ¬ AbG c.ab M ∧ ∃ ab', EX w' p g x { c with ab := ab' } d ∧ AbOk d.s.ns d.s.S ab' ∧ (∀ k, AbG ab' k ↔ AbG c.ab k) ∧ Mv (fun b => b = x.bA) w w' := by
  have HE : Hid (EX w p g x c d) := h
  have HA : Hid (AbOk d.s.ns d.s.S c.ab) := hab
  have HI : Hid (Inv d.f.np d.f.P d.s.ns d.s.S d.s.sg [] []) := hI
  have hN := h.aw.small
  obtain ⟨na0, hna0⟩ := hI.ups a ha
  obtain ⟨nb0, hnb0⟩ := hI.ups b hb
  obtain ⟨RC, HRC⟩ : ∃ RC, Hid (Anc d.s.S a RC ∧ Anc d.s.S b RC ∧ ¬ AbG c.ab RC) := by
    obtain ⟨r, r1, r2⟩ := hr
    obtain ⟨m, hm⟩ := anc_ups r1 ⟨na0, hna0⟩
    have hrn : r < d.s.ns := by
      have : ∀ {y z : Nat}, Anc d.s.S y z → y < d.s.ns → z < d.s.ns := by
        intro y z hyz
        induction hyz with
        | refl => exact id
        | step _ e _ ih =>
          intro hy
          have h9 := hI.upc _ hy (by omega)
          rw [e] at h9
          exact ih (by simpa using h9.2.1)
      exact this r1 ha
    obtain ⟨R, k1, k2, k3⟩ := hab.first m r hrn hm
    exact ⟨R, r1.trans k2.anc, r2.trans k2.anc, k3⟩
  have HUP : Hid (Ups d.s.S (a : Int) na0 ∧ Ups d.s.S (b : Int) nb0) := ⟨hna0, hnb0⟩
  have HFY : Hid (∀ q, (Fy p x q ∨ Fh g d q) → q < w.heap.size) := fun q hq => hq.elim (fun h9 => h.aw.fyLt h9) (fun h9 => h.gw.hlt h9)
  have hb0 : Below w.heap.size w (w.alloc (.map #[] 0)) := (Below.refl _ _).alloc (Nat.le_refl _) _
  have hP0 := MapS.made w Try.prog 3
  have hE0 := h.below hb0
  have hmm := @run_makeMap Try.prog
  clear h hab hI hr hna0 hnb0
  go_enter Try.func34, Try.ntmps34
  go_wp2_with fail
  refine (top_any d.s.S p g x c d.s.ns a na0 _ hE0.aw HA.out ha HUP.out.1).mono ?_
  rintro e w1 ⟨ra, rfl, hT⟩
  obtain ⟨t1, t2, t3, ab1, hE1, t5, t6, hM1⟩ := hT.ex hE0
  have HT1 : Hid (ra < d.s.ns ∧ Up d.s.S (AbG c.ab) a ra ∧ ¬ AbG c.ab ra ∧ AbOk d.s.ns d.s.S ab1 ∧ (∀ k, AbG ab1 k ↔ AbG c.ab k)) := ⟨t1, t2, t3, t5, t6⟩
  have hPA : w.heap.size ≠ x.bA := fun e => by have := HFY.out x.bA (Or.inl (Or.inr (Or.inr (Or.inl rfl)))); omega
  have hP1 := hP0.stay (hM1.other _ hP0.lt hPA)
  have hW1 : Mv (fun q => q = x.bA) w w1 := (Mv.below (F := fun q => q = x.bA) hb0).trans hM1 (fun q hq => Or.inl hq)
  clear hT t1 t2 t3 t5 t6 hM1 hE0 hP0 hb0
  go_wp2_with fail
  refine (top_any d.s.S p g x { c with ab := ab1 } d.s.ns b nb0 w1 hE1.aw HT1.out.2.2.2.1 hb HUP.out.2).mono ?_
  rintro e w2 ⟨rb, rfl, hT⟩
  obtain ⟨t1, t2, t3, ab2, hE2, t5, t6, hM2⟩ := hT.ex hE1
  have hP2 := hP1.stay (hM2.other _ hP1.lt hPA)
  have hW2 : Mv (fun q => q = x.bA) w w2 := hW1.trans hM2 (fun q hq => Or.inl hq)
  obtain ⟨na, nb, HNN⟩ : ∃ na nb, Hid (Ups d.s.S (ra : Int) na ∧ Ups d.s.S (rb : Int) nb) := by
    obtain ⟨m1, k1, _⟩ := HT1.out.2.1.short HUP.out.1
    obtain ⟨m2, k2, _⟩ := t2.short HUP.out.2
    exact ⟨m1, m2, k1, k2⟩
  have HT2 : Hid (Mt d.s.ns d.s.S (AbG c.ab) a b (ra : Int) (rb : Int) (fun i => (fun _ => false) i = true) ∧ AbOk d.s.ns d.s.S ab2 ∧ ∀ k, AbG ab2 k ↔ AbG c.ab k) := by
    have q1 : Up d.s.S (AbG c.ab) b rb := t2.mono (fun k hk => (HT1.out.2.2.2.2 k).1 hk)
    have q2 : ¬ AbG c.ab rb := fun h9 => t3 ((HT1.out.2.2.2.2 rb).2 h9)
    have q3 := Mt.start (G := AbG c.ab) HI.out.ups ha hb HT1.out.2.1 HT1.out.2.2.1 HT1.out.1 q1 q2 t1
    refine ⟨⟨q3.ca, q3.cb, (fun i hi => by cases hi), fun i h4 h5 h6 => (q3.covA i h4 h5 h6).elim, fun i h4 h5 h6 => (q3.covB i h4 h5 h6).elim, q3.dis⟩, t5, fun k => (t6 k).trans (HT1.out.2.2.2.2 k)⟩
  clear hT t1 t2 t3 t5 t6 hM2 hE1 HT1 hP1 hW1
  go_wp2
  go_loopg [1, 2] (2 * (na + nb)) (fun gk v1 v2 wr => ∃ (A B : Nat) (a' b' : Int) (ps : Nat → Bool) (ab' : Nat → Option Nat) (n1 n2 : Nat), v1 = .int .i64 a' ∧ v2 = .int .i64 b' ∧ Hid (((A = a ∧ B = b) ∨ (A = b ∧ B = a)) ∧ Mt d.s.ns d.s.S (AbG c.ab) A B a' b' (fun i => ps i = true) ∧ AbOk d.s.ns d.s.S ab' ∧ (∀ k, AbG ab' k ↔ AbG c.ab k) ∧ Ups d.s.S a' n1 ∧ Ups d.s.S b' n2 ∧ 2 * (n1 + n2) + (if a' = -1 then 1 else 0) = gk) ∧ EX wr p g x { c with ab := ab' } d ∧ MapS Try.prog 3 wr w.heap.size d.s.ns (psF ps) ∧ Mv (fun q => q = x.bA) w wr)
  case atStart =>
    refine ⟨a, b, ra, rb, fun _ => false, ab2, na, nb, rfl, rfl, ⟨Or.inl ⟨rfl, rfl⟩, HT2.out.1, HT2.out.2.1, HT2.out.2.2, HNN.out.1, HNN.out.2, by rw [if_neg (by omega)]; omega⟩, hE2, ?_, hW2⟩
    have e : psF (fun _ => false) = fun _ => false := by
      funext v
      unfold psF
      split
      · split <;> rfl
      · rfl
    rw [e]; exact hP2.mono (Nat.zero_le _)
  case round =>
    clear hE2 hP2 hW2 HT2 HNN
    obtain ⟨A, B, a', b', ps, ab', n1, n2, rfl, rfl, HR, hE, hP, hM⟩ := hrel
    by_cases hm : a' = -1
    · subst hm
      have hb' : b' ≠ -1 := by
        rcases HR.out.1 with ⟨e1, e2⟩ | ⟨e1, e2⟩
        · exact HR.out.2.1.more (by rw [e1]; exact HRC.out.1) (by rw [e2]; exact HRC.out.2.1) HRC.out.2.2
        · exact HR.out.2.1.more (by rw [e1]; exact HRC.out.2.1) (by rw [e2]; exact HRC.out.1) HRC.out.2.2
      have HB : Hid (b' ≠ -1) := hb'
      have HG : Hid (2 * (n1 + n2) + 1 = gk) := by
        have h9 := HR.out.2.2.2.2.2.2
        rw [if_pos rfl] at h9
        exact h9
      clear hb'
      go_wp2
      go_roundg (2 * (n2 + n1) + (if b' = -1 then 1 else 0))
      case measure =>
        have h9 := HG.out
        rw [if_neg HB.out]; omega
      case rel =>
        exact ⟨B, A, b', -1, ps, ab', n2, n1, rfl, rfl, ⟨HR.out.1.elim (fun h9 => Or.inr ⟨h9.2, h9.1⟩) (fun h9 => Or.inl ⟨h9.2, h9.1⟩), HR.out.2.1.swap, HR.out.2.2.1, HR.out.2.2.2.1, HR.out.2.2.2.2.2.1, HR.out.2.2.2.2.1, rfl⟩, hE, hP, hM⟩
    · obtain ⟨k, rfl, hk⟩ : ∃ k : Nat, a' = (k : Int) ∧ k < d.s.ns := by
        rcases HR.out.2.1.ca with h9 | ⟨k, h9, h8, _⟩
        · exact absurd h9 hm
        · exact ⟨k, h9, h8⟩
      have hlk := hP.look lawInt uPass (zUnit _) (keyInt (n := k) (by omega))
      rw [psF_at] at hlk
      have hpl := hP.lt
      cases hps : ps k with
      | true =>
        rw [hps] at hlk
        have HF : Hid _ := HR.out.2.1.found hps
        clear hps
        go_wp2
        refine bodyPost_ret (v := .int .i64 (k : Nat)) (by simp [results, Try.results34, go_sem]) rfl ?_
        obtain ⟨f1, f2, f3, f4⟩ := HF.out
        have hbx : Below wr.heap.size wr (wr.alloc (.cells #[] 109 (0, 0))) := (Below.refl _ _).alloc (Nat.le_refl _) _
        refine ⟨k, rfl, f4, ?_, ?_, f3, ab', hE.below hbx, HR.out.2.2.1, HR.out.2.2.2.1, hM.trans (Mv.below hbx) (fun q hq => Or.inl hq)⟩
        · rcases HR.out.1 with ⟨e1, e2⟩ | ⟨e1, e2⟩
          · rw [← e1]; exact f1
          · rw [← e2]; exact f2
        · rcases HR.out.1 with ⟨e1, e2⟩ | ⟨e1, e2⟩
          · rw [← e2]; exact f2
          · rw [← e1]; exact f1
      | false =>
        rw [hps] at hlk
        have HPS : Hid (¬ ps k = true) := by show ¬ _; rw [hps]; simp
        clear hps
        have hbx : Below wr.heap.size wr (wr.alloc (.cells #[] 109 (0, 0))) := (Below.refl _ _).alloc (Nat.le_refl _) _
        have hEx := hE.below hbx
        have hPx := hP.stay (hbx.block _ hpl)
        have hMx : Mv (fun q => q = x.bA) w (wr.alloc (.cells #[] 109 (0, 0))) := hM.trans (Mv.below hbx) (fun q hq => Or.inl hq)
        obtain ⟨w5, hrun, hP5, ht5⟩ := pass_put hPx k hk hN (fun i hi => (HR.out.2.1.sub i hi).1)
        have hg5 := ht5.grown
        have h5o : ∀ q, q < (wr.alloc (.cells #[] 109 (0, 0))).heap.size → q ≠ w.heap.size → w5.heap[q]? = (wr.alloc (.cells #[] 109 (0, 0))).heap[q]? := fun q hq hne => hg5.block q hq (fun e => hne (by injection e))
        have hE5 : EX w5 p g x { c with ab := ab' } d := ⟨hEx.gw.keep (fun q hq => h5o q (hEx.gw.hlt hq) (fun e => by have := HFY.out q (Or.inr hq); omega)), hEx.aw.keep (fun q hq => h5o q (hEx.aw.fyLt hq) (fun e => by have := HFY.out q (Or.inl hq); omega)), hEx.ap⟩
        have hM5 : Mv (fun q => q = x.bA) w w5 := ⟨hg5.os.trans hMx.os, hg5.tape.trans hMx.tape, hg5.output.trans hMx.output, Nat.le_trans hMx.size hg5.size, fun q hq hn => (h5o q (Nat.lt_of_lt_of_le hq hMx.size) (by omega)).trans (hMx.other q hq hn)⟩
        clear hEx hPx hMx hg5 h5o ht5 hE hP hM
        have hpl5 := hE5.aw.lt
        have hkne : ¬ ((k : Int) = -1) := by omega
        go_wp2_with fail
        refine (step_any p g x { c with ab := ab' } d k w5 hE5 HI.out HR.out.2.2.1 hk).mono ?_
        rintro e w6 ⟨a6, rfl, hnx, ab6, hE6, q1, q2, hM6⟩
        have hP6 := hP5.stay (hM6.other _ hP5.lt hPA)
        have hM7 := hM5.trans hM6 (fun q hq => Or.inl hq)
        have HQ : Hid (Next d.s.ns d.s.S (AbG c.ab) k a6 ∧ AbOk d.s.ns d.s.S ab6 ∧ ∀ k, AbG ab6 k ↔ AbG c.ab k) := by
          refine ⟨hnx.imp id ?_, q1, fun k => (q2 k).trans (HR.out.2.2.2.1 k)⟩
          rintro ⟨k', y, r1, r2, r3, r4, r5⟩
          exact ⟨k', y, r1, r2, r3, r4.mono (fun i hi => (HR.out.2.2.2.1 i).1 hi), fun h9 => r5 ((HR.out.2.2.2.1 k').2 h9)⟩
        clear hnx q1 q2 hM6 hE5 hP5 hM5
        obtain ⟨m6, HM6⟩ : ∃ m, Hid (Ups d.s.S a6 m ∧ m < n1) := next_ups HR.out.2.2.2.2.1 HQ.out.1
        go_wp2
        go_roundg (2 * (n2 + m6) + (if b' = -1 then 1 else 0))
        case measure =>
          have h9 := HR.out.2.2.2.2.2.2
          rw [if_neg (by omega)] at h9
          have h8 := HM6.out.2
          split <;> omega
        case rel =>
          have hAn : A < d.s.ns := by rcases HR.out.1 with ⟨e1, _⟩ | ⟨e1, _⟩ <;> omega
          have hv := HR.out.2.1.visit HI.out.ups hAn HPS.out HQ.out.1
          refine ⟨B, A, b', a6, fun i => i == k || ps i, ab6, n2, m6, rfl, rfl, ⟨HR.out.1.elim (fun h9 => Or.inr ⟨h9.2, h9.1⟩) (fun h9 => Or.inl ⟨h9.2, h9.1⟩), ?_, HQ.out.2.1, HQ.out.2.2, HR.out.2.2.2.2.2.1, HM6.out.1, rfl⟩, hE6, hP6, hM7⟩
          have e : (fun i => (fun i => i == k || ps i) i = true) = fun i => i = k ∨ ps i = true := by
            funext i; simp
          rw [e]; exact hv.swap
end Euf
end Go.Proofs.Ytlonnhnfmcndfac
