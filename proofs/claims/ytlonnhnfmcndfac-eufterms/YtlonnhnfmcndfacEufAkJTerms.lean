/- The contract of ask; it proves no statement of the seat. -/
import Derived.Test.YtlonnhnfmcndfacEufAmJTerms
import Derived.Test.YtlonnhnfmcndfacJoin2Terms
import Derived.Deep.DeepCutAuto
namespace Go.Proofs.Ytlonnhnfmcndfac
open Go.RowKit
set_option linter.unusedVariables false
namespace Euf
theorem uSeen : Try.prog.underlying 85 = some (.map 59 109) := by kernel_rfl
theorem uPairs : Try.prog.underlying 26 = some (.slice 59) := by kernel_rfl
theorem iPair : (Try.prog.info? 59).map (fun i => (i.zero, i.size, i.bytes)) = some (some (.agg #[.int .i64 0, .int .i64 0]), 2, 16) := by kernel_rfl
/-- What 'ask' adds. -/
def askC (c : Ac) (a b : Nat) : Ac := if c.se (min a b, max a b) = true ∨ a = b then c else { c with se := fun k => k == (min a b, max a b) || c.se k, wt := c.wt ++ [(min a b, max a b)] }
section
variable {w : World} {p g : Nat} {x : Ax} {c : Ac} {N : Nat}
theorem AW.lookS (h : AW w p g x c N) (a b : Nat) (ha : a ≤ 10000) (hb : b ≤ 10000) {o : Bool} (ho : c.se (a, b) = o) : (Instr.lookup 85 (.map (some x.bS)) (.agg #[.int .i64 (a : Nat), .int .i64 (b : Nat)]) true).run Try.prog w = .ok (.tuple #[.agg #[], .bool o]) w := by
  obtain ⟨kl, hkl⟩ := keyPair (a := (a : Nat)) (b := (b : Nat)) (wfNat (by omega)) (wfNat (by omega))
  have := h.seen.look lawPair uSeen (zUnit _) hkl
  rw [seF_at, ho] at this
  exact this
theorem AW.putS (h : AW w p g x c N) (a b : Nat) (ha : a < N) (hb : b < N) : ∃ w', (Instr.mapUpdate 85 (.map (some x.bS)) (.agg #[.int .i64 (a : Nat), .int .i64 (b : Nat)]) (.agg #[])).run Try.prog w = .ok () w' ∧ AW w' p g x { c with se := fun k => k == (a, b) || c.se k } N ∧ Mv (fun q => q = x.bS) w w' := by
  have hs := h.small
  obtain ⟨kl, hkl⟩ := keyPair (a := (a : Nat)) (b := (b : Nat)) (wfNat (by omega)) (wfNat (by omega))
  have hN2 : N * N ≤ 10000 * 10000 := Nat.mul_le_mul hs hs
  obtain ⟨w', hrun, hm, ht⟩ := h.seen.put lawPair uSeen (by unfold maxLen; omega) hkl (seF (fun k => k == (a, b) || c.se k)) (by rw [seF_at]; simp) (seF_other (fun k hk => by simp [hk]))
  have seN : ∀ i j, (fun k => k == (a, b) || c.se k) (i, j) = true → i < N ∧ j < N := by
    intro i j hij
    simp at hij
    rcases hij with ⟨rfl, rfl⟩ | hij
    · exact ⟨ha, hb⟩
    · exact h.seN i j hij
  have hm2 := hm.tightBy lawPair (N * N) (fun v => match v with | .agg cs => (match cs.toList with | [.int _ y, .int _ z] => y.toNat * N + z.toNat | _ => 0) | _ => 0) (fun v hv => by
    obtain ⟨i, j, rfl, h1⟩ := seF_true hv
    obtain ⟨h2, h3⟩ := seN i j h1
    show Int.toNat (i : Int) * N + Int.toNat (j : Int) < N * N
    rw [Int.toNat_natCast, Int.toNat_natCast]
    have h4 := Nat.mul_le_mul_right N (show i + 1 ≤ N by omega)
    rw [Nat.add_mul] at h4
    omega) (fun v v' hv hv' e => by
    obtain ⟨i, j, rfl, h1⟩ := seF_true hv
    obtain ⟨i', j', rfl, h1'⟩ := seF_true hv'
    obtain ⟨h2, h3⟩ := seN i j h1
    obtain ⟨h2', h3'⟩ := seN i' j' h1'
    have e2 : Int.toNat (i : Int) * N + Int.toNat (j : Int) = Int.toNat (i' : Int) * N + Int.toNat (j' : Int) := e
    rw [Int.toNat_natCast, Int.toNat_natCast, Int.toNat_natCast, Int.toNat_natCast] at e2
    have ei : i = i' := by
      rcases Nat.lt_trichotomy i i' with g9 | g9 | g9
      · have h4 := Nat.mul_le_mul_right N (show i + 1 ≤ i' by omega)
        rw [Nat.add_mul] at h4
        omega
      · exact g9
      · have h4 := Nat.mul_le_mul_right N (show i' + 1 ≤ i by omega)
        rw [Nat.add_mul] at h4
        omega
    subst ei
    have : j = j' := by omega
    rw [this])
  obtain ⟨k1, k2⟩ := h.turnSeen ht hm2 seN
  exact ⟨w', hrun, k1, k2⟩
end
/-- What 'ask' leaves. -/
def AskEnd (p g : Nat) (x : Ax) (c : Ac) (d : Gd) (a b : Nat) (w w' : World) : Prop :=
  ∃ v, EX w' p g { x with vW := v } (askC c a b) d ∧ Mv (Fy p x) w w' ∧ (v.ownBlock = x.vW.ownBlock ∨ ∃ q, v.ownBlock = some q ∧ w.heap.size ≤ q)

set_option maxRecDepth 20000 in
set_option maxHeartbeats 16000000 in
theorem ask_any (p g : Nat) (x : Ax) (c : Ac) (d : Gd) (a b : Nat) (w : World) (h : EX w p g x c d) (ha : a < d.s.ns) (hb : b < d.s.ns) (hwt : c.wt.length ≤ 100000000) :
    Calls Try.prog 33 #[.pointer (some ⟨p, 0, none⟩), .int .i64 (a : Nat), .int .i64 (b : Nat)] w fun e w' => e = .returned (.tuple #[]) ∧ AskEnd p g x c d a b w w' := by
  obtain ⟨lo, hlo⟩ : ∃ lo, lo = min a b := ⟨_, rfl⟩
  obtain ⟨hi, hhi⟩ : ∃ hi, hi = max a b := ⟨_, rfl⟩
  have HLH : Hid (lo = min a b ∧ hi = max a b ∧ lo < d.s.ns ∧ hi < d.s.ns) := ⟨hlo, hhi, by omega, by omega⟩
  have e1 : (if b < a then (b : Int) else (a : Int)) = (lo : Int) := by split <;> omega
  have e2 : (if a < b then (b : Int) else (a : Int)) = (hi : Int) := by split <;> omega
  have hl1 : lo < d.s.ns := by omega
  have hh1 : hi < d.s.ns := by omega
  clear hlo hhi
  have hN := h.aw.small
  have hb0 : Below w.heap.size w (w.alloc (.cells #[.int .i64 (lo : Nat), .int .i64 (hi : Nat)] 59 (0, 0))) := (Below.refl _ _).alloc (Nat.le_refl _) _
  have kb : (w.alloc (.cells #[.int .i64 (lo : Nat), .int .i64 (hi : Nat)] 59 (0, 0))).heap[w.heap.size]? = _ := heap_alloc_new w _
  have hE0 := h.below hb0
  have HFY : Hid (∀ q, (Fy p x q ∨ Fh g d q) → q < w.heap.size) := fun q hq => hq.elim (fun h9 => h.aw.fyLt h9) (fun h9 => h.gw.hlt h9)
  have HB0 : Hid (Below w.heap.size w (w.alloc (.cells #[.int .i64 (lo : Nat), .int .i64 (hi : Nat)] 59 (0, 0)))) := hb0
  clear h hb0
  go_enter Try.func33, Try.ntmps33
  go_wp2
  clear e1 e2
  generalize (w.alloc (.cells #[.int .i64 (lo : Nat), .int .i64 (hi : Nat)] 59 (0, 0))) = w1 at hE0 kb HB0 ⊢
  have d0 : w1.cell? ⟨w.heap.size, 0, none⟩ = some (.int .i64 (lo : Nat)) := cell_of_row _ w.heap.size 0 _ 59 (0, 0) kb
  have d1 : w1.cell? ⟨w.heap.size, 1, none⟩ = some (.int .i64 (hi : Nat)) := cell_of_row _ w.heap.size 1 _ 59 (0, 0) kb
  obtain ⟨-, s1, -, -, -⟩ := hE0.aw.cells
  have hpl := hE0.aw.lt
  have hql : w.heap.size < w1.heap.size := (Array.getElem?_eq_some_iff.1 kb).1
  obtain ⟨o, hse⟩ : ∃ o, c.se (lo, hi) = o := ⟨_, rfl⟩
  have HSE : Hid (c.se (lo, hi) = o) := hse
  have l1 := (hE0.below (Below.refl _ _).drew).aw.lookS lo hi (by omega) (by omega) hse
  have l2 := (hE0.below ((Below.refl w1.heap.size w1).alloc (Nat.le_refl _) (.cells #[] 109 (0, 0))).drew).aw.lookS lo hi (by omega) (by omega) hse
  have HE0 : Hid (EX w1 p g x c d) := hE0
  have HD : Hid (w1.cell? ⟨w.heap.size, 0, none⟩ = some (.int .i64 (lo : Nat)) ∧ w1.cell? ⟨w.heap.size, 1, none⟩ = some (.int .i64 (hi : Nat)) ∧ w.heap.size < w1.heap.size) := ⟨d0, d1, hql⟩
  clear hE0 hse kb
  go_cut [8] (fun v8 wx => v8 = .bool o ∧ Below w1.heap.size w1 wx)
  case first =>
    go_region
    all_goals (go_wp2_with fail; go_meet)
    all_goals exact ⟨rfl, ((Below.refl w1.heap.size w1).alloc (Nat.le_refl _) (.cells #[] 109 (0, 0))).drew⟩
  case rest =>
    clear d0 d1 s1 hpl hql l1 l2
    obtain ⟨rfl, hbc⟩ := hcut
    have HEc : Hid (EX wc p g x c d) := HE0.out.below hbc
    have HBc : Hid (Below w.heap.size w wc) := HB0.out.trans (hbc.mono (Nat.le_of_lt HD.out.2.2))
    have d0 : wc.cell? ⟨w.heap.size, 0, none⟩ = some (.int .i64 (lo : Nat)) := (hbc.cell (p := ⟨w.heap.size, 0, none⟩) HD.out.2.2).trans HD.out.1
    have d1 : wc.cell? ⟨w.heap.size, 1, none⟩ = some (.int .i64 (hi : Nat)) := (hbc.cell (p := ⟨w.heap.size, 1, none⟩) HD.out.2.2).trans HD.out.2.1
    have hql : w.heap.size < wc.heap.size := Nat.lt_of_lt_of_le HD.out.2.2 hbc.size
    clear hbc HE0 HD HB0
    have HSAME : Hid (c.se (min a b, max a b) = true ∨ a = b → AskEnd p g x c d a b w wc) := fun h9 => ⟨x.vW, by unfold askC; rw [if_pos h9]; exact HEc.out, Mv.below HBc.out, Or.inl rfl⟩
    cases o with
    | true =>
      have HY : Hid (c.se (min a b, max a b) = true) := by show _ = _; rw [← HLH.out.1, ← HLH.out.2.1]; exact HSE.out
      clear d0 d1 hql
      go_wp2
      refine bodyPost_ret (v := .tuple #[]) (by simp [results, Try.results33, go_sem]) rfl ?_
      exact ⟨rfl, HSAME.out (Or.inl HY.out)⟩
    | false =>
      by_cases hab : a = b
      · have HY : Hid (a = b) := hab
        have habI : (a : Int) = (b : Int) := by omega
        clear d0 d1 hql hab
        go_wp2
        refine bodyPost_ret (v := .tuple #[]) (by simp [results, Try.results33, go_sem]) rfl ?_
        exact ⟨rfl, HSAME.out (Or.inr HY.out)⟩
      · have habI : ¬ ((a : Int) = (b : Int)) := by omega
        have HY : Hid (askC c a b = { c with se := fun k => k == (lo, hi) || c.se k, wt := c.wt ++ [(lo, hi)] }) := by
          show _ = _
          unfold askC
          rw [← HLH.out.1, ← HLH.out.2.1, HSE.out, if_neg (by simp [hab])]
        clear hab HSAME
        obtain ⟨w5, hrun, hA5, hM5⟩ := (HEc.out.below (Below.refl _ _).drew).aw.putS lo hi hl1 hh1
        have hE5 : EX w5 p g x { c with se := fun k => k == (lo, hi) || c.se k } d := (HEc.out.below (Below.refl _ _).drew).mv hM5 (fun q hq => Or.inl (Or.inr (Or.inl hq))) hA5 (fun q hq => Or.inl hq)
        obtain ⟨-, s1, -, -, -⟩ := HEc.out.aw.cells
        have hpl := HEc.out.aw.lt
        have hne0 : w.heap.size ≠ x.bS := fun e => by have := HFY.out x.bS (Or.inl (Or.inr (Or.inl rfl))); omega
        have d05 : w5.cell? ⟨w.heap.size, 0, none⟩ = some (.int .i64 (lo : Nat)) := (World.cell?_of_block (a := ⟨w.heap.size, 0, none⟩) (hM5.other _ hql hne0)).trans d0
        have d15 : w5.cell? ⟨w.heap.size, 1, none⟩ = some (.int .i64 (hi : Nat)) := (World.cell?_of_block (a := ⟨w.heap.size, 1, none⟩) (hM5.other _ hql hne0)).trans d1
        have hql5 : w.heap.size < w5.heap.size := Nat.lt_of_lt_of_le hql hM5.size
        go_wp2
        go_region
        go_wp2
        have HE5 : Hid (EX w5 p g x { c with se := fun k => k == (lo, hi) || c.se k } d) := hE5
        have HM5c : Hid (Mv (Fy p x) w w5) := ((Mv.below (F := Fy p x) HBc.out).drew).trans hM5 (fun q hq => Or.inl (Or.inr (Or.inl hq)))
        clear d0 d1 hql hrun hA5 hM5 s1 hpl hE5
        have hpl := HE5.out.aw.lt
        have hwb : x.vW.ownBlock ≠ some w.heap.size := fun e => by have := HFY.out _ (Or.inl (Or.inr (Or.inr (Or.inr (Or.inl e))))); omega
        have hwp : x.vW.ownBlock ≠ some p := HE5.out.aw.wait.neB HE5.out.aw.blk (by decide)
        have m0 : w5.cell? ⟨p, 2, none⟩ = some x.vW := HE5.out.aw.cells.2.2.1
        have hblk := HE5.out.aw.blk
        obtain ⟨E5, hE5⟩ : ∃ E5 : World → Prop, E5 = fun wr => ∃ v, EX wr p g { x with vW := v } { c with se := fun k => k == (lo, hi) || c.se k, wt := c.wt ++ [(lo, hi)] } d ∧ Mv (Fy p x) w5 wr ∧ (v.ownBlock = x.vW.ownBlock ∨ ∃ q, v.ownBlock = some q ∧ w5.heap.size ≤ q) := ⟨_, rfl⟩
        obtain ⟨M5, hM5⟩ : ∃ M5 : World → Prop, M5 = fun wr => wr.cell? ⟨p, 2, none⟩ = some x.vW ∧ wr.cell? ⟨w.heap.size, 0, none⟩ = some (.int .i64 (lo : Nat)) ∧ wr.cell? ⟨w.heap.size, 1, none⟩ = some (.int .i64 (hi : Nat)) := ⟨_, rfl⟩
        have HM0 : Hid (∀ wr, Below w5.heap.size w5 wr → M5 wr) := by
          intro wr h1; rw [hM5]
          exact ⟨(h1.cell (p := ⟨p, 2, none⟩) hpl).trans m0, (h1.cell (p := ⟨w.heap.size, 0, none⟩) hql5).trans d05, (h1.cell (p := ⟨w.heap.size, 1, none⟩) hql5).trans d15⟩
        have HM1 : Hid (∀ wr v9, App x.vW v9 w5 wr → M5 wr) := by
          intro wr v9 h1; rw [hM5]
          exact ⟨(World.cell?_of_block (a := ⟨p, 2, none⟩) (h1.other p hpl hwp)).trans m0, (World.cell?_of_block (a := ⟨w.heap.size, 0, none⟩) (h1.other _ hql5 hwb)).trans d05, (World.cell?_of_block (a := ⟨w.heap.size, 1, none⟩) (h1.other _ hql5 hwb)).trans d15⟩
        have HFZ : Hid (∀ wr v9, App x.vW v9 w5 wr → wr.cell? ⟨p, 2, none⟩ = some x.vW ∧ wr.frozen? ⟨p, 2, none⟩ = false) := by
          intro wr v9 h1
          have h2 := HM1.out wr v9 h1
          rw [hM5] at h2
          exact ⟨h2.1, frozen_of_row wr p 2 _ 88 ((h1.other p hpl hwp).trans hblk)⟩
        have HOWN : Hid (∀ wr, Below w5.heap.size w5 wr → OL 2 59 wr x.vW c.wt.length (prC c.wt)) := fun wr h1 => (HE5.out.below h1).aw.wait
        have HNB : Hid (c.wt.length + 1 ≤ 1000000000) := by show _ ≤ _; omega
        have HSET : Hid (∀ wr v9, OL 2 59 wr v9 (c.wt.length + 1) (prC (c.wt ++ [(lo, hi)])) → App x.vW v9 w5 wr → v9 ≠ .slice none 0 0 → E5 (wr.setCell ⟨p, 2, none⟩ v9)) := by
          intro wr v9 h1 h2 h3
          rw [hE5]
          obtain ⟨k1, k2⟩ := HE5.out.aw.pushWait (lo, hi) h2 h1
          have k3 : Mv (Fy p x) w5 (wr.setCell ⟨p, 2, none⟩ v9) := ⟨k2.os, k2.tape, k2.output, k2.size, fun q hq hn => k2.other q hq (fun h9 => hn (h9.elim Or.inl (fun h8 => Or.inr (Or.inr (Or.inr (Or.inl h8))))))⟩
          refine ⟨v9, HE5.out.mv k3 (fun q hq => Or.inl hq) k1 (fun q hq => ?_), k3, h2.at_⟩
          rcases hq with hq | hq | hq | hq | hq
          · exact Or.inl (Or.inl hq)
          · exact Or.inl (Or.inr (Or.inl hq))
          · exact Or.inl (Or.inr (Or.inr (Or.inl hq)))
          · rcases h2.at_ with e9 | ⟨q', e8, e9⟩
            · exact Or.inl (Or.inr (Or.inr (Or.inr (Or.inl (e9.symm.trans hq)))))
            · right
              have := e8.symm.trans hq
              injection this with this
              omega
          · exact Or.inl (Or.inr (Or.inr (Or.inr (Or.inr hq))))
        clear m0 hblk hwb hwp d05 d15
        refine wp_region_E (by kernel_rfl) [some 37, some 38, some 39, some 40, some 41, some 42, some 43, some 44, some 45, some 46, none] [none, none, none, none, none, none, none, none, none, none, none, none, none, none, none, none, none, none, none, none, none, none, none, none, none, none, none, none, none, none, none, none, none, none, none, none, none, some 37, some 38, some 39, some 40, some 41, some 42, some 43, some 44, some 45, some 46] (fun U => by kernel_rfl) [fun u => u = (.pointer (some ⟨p, 0, none⟩)), fun u => u = (.pointer (some ⟨p, 0, none⟩)), fun u => u = (.pointer (some ⟨p, 0, none⟩)), fun u => u = (.pointer (some ⟨p, 2, none⟩)), fun u => u = (x.vW), fun u => u = (.agg #[.int .i64 (lo : Nat), .int .i64 (hi : Nat)]), fun _ => True, fun _ => True, fun u => u = (.pointer (some ⟨p, 0, none⟩)), fun u => u = (.pointer (some ⟨p, 2, none⟩)), fun _ => True] (fun L U wr => (L 7 = false → Below w5.heap.size w5 wr) ∧ (L 6 = true → L 7 = false → ONE5 59 [.int .i64 (lo : Nat), .int .i64 (hi : Nat)] (U 43) wr) ∧ (L 7 = true → L 10 = false → OL 2 59 wr (U 44) (c.wt.length + 1) (prC (c.wt ++ [(lo, hi)])) ∧ App (x.vW) (U 44) w5 wr ∧ U 44 ≠ .slice none 0 0) ∧ (L 10 = true → (L 0 = true ∧ L 1 = true ∧ L 2 = true ∧ L 3 = true ∧ L 4 = true ∧ L 5 = true ∧ L 6 = true ∧ L 7 = true ∧ L 8 = true ∧ L 9 = true) ∧ E5 wr)) (by kernel_rfl) (by decide) (by kernel_rfl) (by kernel_rfl) ?_ ?_ ?_
        · exact fun U => ⟨fun _ => (Below.refl _ _).drew, (fun h => by cases h), (fun h => by cases h), (fun h => by cases h)⟩
        · refine StepsE.run rfl ?_ ?_
          · intro L U wr hC hP hlk hcl haf A K hFm hK
            simp [Aft, Region.binds] at haf
            have e0 : A.tmps[0]? = some (.pointer (some ⟨p, 0, none⟩)) := (hFm.old 0 (by decide)).trans (by kernel_rfl)
            have HC : Hid _ := hC
            clear hC
            refine ⟨?_⟩
            go_simp
            refine hK _ _ rfl ?_
            obtain ⟨c0, cB, c1, cS⟩ := HC.out
            refine ⟨fun h => c0 (by simpa using h), (fun h1 h2 => by have h9 := cB (by simpa using h1) (by simpa using h2); simpa [updO, Go.Proofs.Ytlonnhnfmcndfac.upd] using h9), (fun h1 h2 => by have h9 := c1 (by simpa using h1) (by simpa using h2); simpa [updO, Go.Proofs.Ytlonnhnfmcndfac.upd] using h9), fun h => ?_⟩
            have h9 := cS (by simpa using h)
            exact ⟨by simp [h9.1], h9.2⟩
          refine StepsE.run rfl ?_ ?_
          · intro L U wr hC hP hlk hcl haf A K hFm hK
            simp [Aft, Region.binds] at haf
            have e0 : A.tmps[0]? = some (.pointer (some ⟨p, 0, none⟩)) := (hFm.old 0 (by decide)).trans (by kernel_rfl)
            have HC : Hid _ := hC
            clear hC
            refine ⟨?_⟩
            go_simp
            refine hK _ _ rfl ?_
            obtain ⟨c0, cB, c1, cS⟩ := HC.out
            refine ⟨fun h => c0 (by simpa using h), (fun h1 h2 => by have h9 := cB (by simpa using h1) (by simpa using h2); simpa [updO, Go.Proofs.Ytlonnhnfmcndfac.upd] using h9), (fun h1 h2 => by have h9 := c1 (by simpa using h1) (by simpa using h2); simpa [updO, Go.Proofs.Ytlonnhnfmcndfac.upd] using h9), fun h => ?_⟩
            have h9 := cS (by simpa using h)
            exact ⟨by simp [h9.1], h9.2⟩
          refine StepsE.run rfl ?_ ?_
          · intro L U wr hC hP hlk hcl haf A K hFm hK
            simp [Aft, Region.binds] at haf
            have g1 : U 38 = (.pointer (some ⟨p, 0, none⟩)) := hP 1 38 (by simp [haf]) rfl
            have e38 : A.tmps[38]? = some (.pointer (some ⟨p, 0, none⟩)) := hFm.is 1 38 rfl g1
            have HC : Hid _ := hC
            clear hC
            refine ⟨?_⟩
            go_simp
            refine hK _ _ rfl ?_
            obtain ⟨c0, cB, c1, cS⟩ := HC.out
            refine ⟨fun h => c0 (by simpa using h), (fun h1 h2 => by have h9 := cB (by simpa using h1) (by simpa using h2); simpa [updO, Go.Proofs.Ytlonnhnfmcndfac.upd] using h9), (fun h1 h2 => by have h9 := c1 (by simpa using h1) (by simpa using h2); simpa [updO, Go.Proofs.Ytlonnhnfmcndfac.upd] using h9), fun h => ?_⟩
            have h9 := cS (by simpa using h)
            exact ⟨by simp [h9.1], h9.2⟩
          refine StepsE.run rfl ?_ ?_
          · intro L U wr hC hP hlk hcl haf A K hFm hK
            simp [Aft, Region.binds] at haf
            have g2 : U 39 = (.pointer (some ⟨p, 0, none⟩)) := hP 2 39 (by simp [haf]) rfl
            have e39 : A.tmps[39]? = some (.pointer (some ⟨p, 0, none⟩)) := hFm.is 2 39 rfl g2
            have HC : Hid _ := hC
            clear hC
            refine ⟨?_⟩
            go_simp
            refine hK _ _ rfl ?_
            obtain ⟨c0, cB, c1, cS⟩ := HC.out
            refine ⟨fun h => c0 (by simpa using h), (fun h1 h2 => by have h9 := cB (by simpa using h1) (by simpa using h2); simpa [updO, Go.Proofs.Ytlonnhnfmcndfac.upd] using h9), (fun h1 h2 => by have h9 := c1 (by simpa using h1) (by simpa using h2); simpa [updO, Go.Proofs.Ytlonnhnfmcndfac.upd] using h9), fun h => ?_⟩
            have h9 := cS (by simpa using h)
            exact ⟨by simp [h9.1], h9.2⟩
          refine StepsE.run rfl ?_ ?_
          · intro L U wr hC hP hlk hcl haf A K hFm hK
            simp [Aft, Region.binds] at haf
            have g3 : U 40 = (.pointer (some ⟨p, 2, none⟩)) := hP 3 40 (by simp [haf]) rfl
            have e40 : A.tmps[40]? = some (.pointer (some ⟨p, 2, none⟩)) := hFm.is 3 40 rfl g3
            have hM8 : M5 wr := by
              obtain ⟨c0, cB, c1, cS⟩ := hC
              have hs : L 10 = false := by cases h : L 10 with | false => rfl | true => exact absurd (cS h).1 (by simp [hlk])
              cases h14 : L 7 with
              | false => exact HM0.out wr (c0 h14)
              | true => exact HM1.out wr (U 44) (c1 h14 hs).2.1
            rw [hM5] at hM8
            obtain ⟨m7, mq0, mq1⟩ := hM8
            have HC : Hid _ := hC
            clear hC
            refine ⟨?_⟩
            go_simp
            refine hK _ _ rfl ?_
            obtain ⟨c0, cB, c1, cS⟩ := HC.out
            refine ⟨fun h => c0 (by simpa using h), (fun h1 h2 => by have h9 := cB (by simpa using h1) (by simpa using h2); simpa [updO, Go.Proofs.Ytlonnhnfmcndfac.upd] using h9), (fun h1 h2 => by have h9 := c1 (by simpa using h1) (by simpa using h2); simpa [updO, Go.Proofs.Ytlonnhnfmcndfac.upd] using h9), fun h => ?_⟩
            have h9 := cS (by simpa using h)
            exact ⟨by simp [h9.1], h9.2⟩
          refine StepsE.run rfl ?_ ?_
          · intro L U wr hC hP hlk hcl haf A K hFm hK
            simp [Aft, Region.binds] at haf
            have e6 : A.tmps[6]? = some (.pointer (some ⟨w.heap.size, 0, none⟩)) := (hFm.old 6 (by decide)).trans (by kernel_rfl)
            have hM8 : M5 wr := by
              obtain ⟨c0, cB, c1, cS⟩ := hC
              have hs : L 10 = false := by cases h : L 10 with | false => rfl | true => exact absurd (cS h).1 (by simp [hlk])
              cases h14 : L 7 with
              | false => exact HM0.out wr (c0 h14)
              | true => exact HM1.out wr (U 44) (c1 h14 hs).2.1
            rw [hM5] at hM8
            obtain ⟨m7, mq0, mq1⟩ := hM8
            have HC : Hid _ := hC
            clear hC
            refine ⟨?_⟩
            go_simp
            refine hK _ _ rfl ?_
            obtain ⟨c0, cB, c1, cS⟩ := HC.out
            refine ⟨fun h => c0 (by simpa using h), (fun h1 h2 => by have h9 := cB (by simpa using h1) (by simpa using h2); simpa [updO, Go.Proofs.Ytlonnhnfmcndfac.upd] using h9), (fun h1 h2 => by have h9 := c1 (by simpa using h1) (by simpa using h2); simpa [updO, Go.Proofs.Ytlonnhnfmcndfac.upd] using h9), fun h => ?_⟩
            have h9 := cS (by simpa using h)
            exact ⟨by simp [h9.1], h9.2⟩
          refine StepsE.run rfl ?_ ?_
          · intro L U wr hC hP hlk hcl haf A K hFm hK
            simp [Aft, Region.binds] at haf
            have g5 : U 42 = (.agg #[.int .i64 (lo : Nat), .int .i64 (hi : Nat)]) := hP 5 42 (by simp [haf]) rfl
            have e42 : A.tmps[42]? = some (.agg #[.int .i64 (lo : Nat), .int .i64 (hi : Nat)]) := hFm.is 5 42 rfl g5
            have hA9 : L 7 = false := by cases h : L 7 with | false => rfl | true => have h9 := hcl 7 _ rfl h; simp [Aft, Region.binds, hlk] at h9
            refine ⟨?_⟩
            go_simp
            refine hK _ _ trivial ⟨fun h => ?_, fun _ _ => ?_, fun h1 h2 => ?_, fun h => ?_⟩
            · exact ((hC.1 hA9).alloc (hC.1 hA9).size _)
            · exact ⟨wr.heap.size, rfl, heap_alloc_new wr _⟩
            · simp [hA9] at h1
            · have h9 := (hC.2.2.2 (by simpa using h)).1
              simp [hlk] at h9
          refine StepsE.run rfl ?_ ?_
          · intro L U wr hC hP hlk hcl haf A K hFm hK
            simp [Aft, Region.binds] at haf
            have g4 : U 41 = (x.vW) := hP 4 41 (by simp [haf]) rfl
            have e41 : A.tmps[41]? = some (x.vW) := hFm.is 4 41 rfl g4
            have e43 : A.tmps[43]? = some (U 43) := hFm.got 6 43 rfl
            have l6 : L 6 = true := by simp [haf]
            refine ⟨?_⟩
            refine wp_push1 (.tmp 41) (.tmp 43) 26 rfl 2 59 _ 16 uPairs iPair (by decide) rfl (by decide) (x.vW) (c.wt.length) (prC c.wt) (by simp [Act.eval, e41]) (HOWN.out wr (hC.1 hlk)) (fun _ _ => rfl) [.int .i64 (lo : Nat), .int .i64 (hi : Nat)] 59 (U 43) (hC.2.1 l6 hlk) (by simp [Act.eval, e43]) rfl (by intro u hu; simp at hu; rcases hu with rfl | rfl <;> rfl) HNB.out (prC (c.wt ++ [(lo, hi)])) (fun k hk => by simp [prC, List.getElem?_append_left hk]) (by simp [prC]) ?_
            intro v9 w9 hol9 hap9 hne9
            refine hK _ _ trivial ⟨fun h => ?_, fun _ h => ?_, fun _ _ => ?_, fun h => ?_⟩
            · simp at h
            · simp at h
            · simp only [updO, Go.Proofs.Ytlonnhnfmcndfac.upd, beq_self_eq_true, cond_true]; exact ⟨hol9, hap9.ofBelow (hC.1 hlk), hne9⟩
            · have h9 := (hC.2.2.2 (by simpa using h)).1
              simp [hlk] at h9
          refine StepsE.run rfl ?_ ?_
          · intro L U wr hC hP hlk hcl haf A K hFm hK
            simp [Aft, Region.binds] at haf
            have g0 : U 37 = (.pointer (some ⟨p, 0, none⟩)) := hP 0 37 (by simp [haf]) rfl
            have e37 : A.tmps[37]? = some (.pointer (some ⟨p, 0, none⟩)) := hFm.is 0 37 rfl g0
            have HC : Hid _ := hC
            clear hC
            refine ⟨?_⟩
            go_simp
            refine hK _ _ rfl ?_
            obtain ⟨c0, cB, c1, cS⟩ := HC.out
            refine ⟨fun h => c0 (by simpa using h), (fun h1 h2 => by have h9 := cB (by simpa using h1) (by simpa using h2); simpa [updO, Go.Proofs.Ytlonnhnfmcndfac.upd] using h9), (fun h1 h2 => by have h9 := c1 (by simpa using h1) (by simpa using h2); simpa [updO, Go.Proofs.Ytlonnhnfmcndfac.upd] using h9), fun h => ?_⟩
            have h9 := cS (by simpa using h)
            exact ⟨by simp [h9.1], h9.2⟩
          refine StepsE.run rfl ?_ ?_
          · intro L U wr hC hP hlk hcl haf A K hFm hK
            simp [Aft, Region.binds] at haf
            have g8 : U 45 = (.pointer (some ⟨p, 0, none⟩)) := hP 8 45 (by simp [haf]) rfl
            have e45 : A.tmps[45]? = some (.pointer (some ⟨p, 0, none⟩)) := hFm.is 8 45 rfl g8
            have HC : Hid _ := hC
            clear hC
            refine ⟨?_⟩
            go_simp
            refine hK _ _ rfl ?_
            obtain ⟨c0, cB, c1, cS⟩ := HC.out
            refine ⟨fun h => c0 (by simpa using h), (fun h1 h2 => by have h9 := cB (by simpa using h1) (by simpa using h2); simpa [updO, Go.Proofs.Ytlonnhnfmcndfac.upd] using h9), (fun h1 h2 => by have h9 := c1 (by simpa using h1) (by simpa using h2); simpa [updO, Go.Proofs.Ytlonnhnfmcndfac.upd] using h9), fun h => ?_⟩
            have h9 := cS (by simpa using h)
            exact ⟨by simp [h9.1], h9.2⟩
          refine StepsE.run rfl ?_ StepsE.nil
          · intro L U wr hC hP hlk hcl haf A K hFm hK
            simp [Aft, Region.binds] at haf
            have g9 : U 46 = (.pointer (some ⟨p, 2, none⟩)) := hP 9 46 (by simp [haf]) rfl
            have e46 : A.tmps[46]? = some (.pointer (some ⟨p, 2, none⟩)) := hFm.is 9 46 rfl g9
            have e44 : A.tmps[44]? = some (U 44) := hFm.got 7 44 rfl
            have l9 : L 9 = true := by simp [haf]
            have l7 : L 7 = true := by simp [haf]
            have a9 := hcl 9 _ rfl l9
            simp [Aft, Region.binds] at a9
            have l8 : L 8 = true := by simp [a9]
            have a7 := hcl 7 _ rfl l7
            simp [Aft, Region.binds] at a7
            have l4 : L 4 = true := by simp [a7]
            have l6 : L 6 = true := by simp [a7]
            have a8 := hcl 8 _ rfl l8
            simp [Aft, Region.binds] at a8
            have l0 : L 0 = true := by simp [a8]
            have a4 := hcl 4 _ rfl l4
            simp [Aft, Region.binds] at a4
            have l3 : L 3 = true := by simp [a4]
            have a6 := hcl 6 _ rfl l6
            simp [Aft, Region.binds] at a6
            have l5 : L 5 = true := by simp [a6]
            have a3 := hcl 3 _ rfl l3
            simp [Aft, Region.binds] at a3
            have l2 : L 2 = true := by simp [a3]
            have a2 := hcl 2 _ rfl l2
            simp [Aft, Region.binds] at a2
            have l1 : L 1 = true := by simp [a2]
            refine ⟨?_⟩
            obtain ⟨hol9, hap9, hne9⟩ := hC.2.2.1 l7 hlk
            have HKK : Hid _ := HSET.out wr (U 44) hol9 hap9 hne9
            obtain ⟨k4, k5⟩ := HFZ.out wr (U 44) hap9
            obtain ⟨ao9, cc9, hv9, -, -, -, -⟩ := hol9.shape
            obtain ⟨nl, hnl⟩ : ∃ nl, nl = c.wt.length + 1 := ⟨_, rfl⟩
            rw [← hnl] at hv9
            clear hnl
            have e44 : A.tmps[44]? = some (.slice ao9 nl cc9) := hFm.is 7 44 rfl hv9
            rw [hv9] at HKK
            clear hol9 hap9 hne9 hC
            go_simp
            refine hK (.tuple #[]) _ trivial ⟨fun h => ?_, fun h1 h2 => ?_, fun h1 h2 => ?_, fun _ => ⟨?_, HKK.out⟩⟩
            · simp [l7] at h
            · simp [l7] at h2
            · simp at h2
            · simp [l0, l1, l2, l3, l4, l5, l6, l7, l8, l9]
        intro L U5 V5 hall hC hP
        have hE := (hC.2.2.2 (hall 10 (by decide))).2
        rw [hE5] at hE
        clear hC hP hall hE5 hM5 HM0 HM1 HFZ HOWN HSET
        have HE : Hid _ := hE
        clear hE
        simp only [setM_some, setM_none, setM_nil]
        go_wp2
        go_end0
        obtain ⟨v, q1, q2, q3⟩ := HE.out
        refine ⟨rfl, v, by rw [HY.out]; exact q1, HM5c.out.trans q2 (fun q hq => Or.inl hq), ?_⟩
        rcases q3 with h9 | ⟨q, h8, h9⟩
        · exact Or.inl h9
        · exact Or.inr ⟨q, h8, Nat.le_trans HM5c.out.size h9⟩
end Euf
end Go.Proofs.Ytlonnhnfmcndfac
