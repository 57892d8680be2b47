/- Joined: EufAk, EufAn, EufAl: words and contracts; no statement of the seat is proved here. -/
import Derived.Test.YtmnpefiaelpkfacJoin9Classes
import Derived.Test.YtmnpefiaelpkfacJoin2Classes
import Derived.Deep.DeepCutAuto
/- The contract of ask; it proves no statement of the seat. -/
namespace Go.Proofs.Ytmnpefiaelpkfac
open Go.RowKit
set_option linter.unusedVariables false
namespace Euf
theorem uSeen : Try.prog.underlying 59 = some (.map 51 92) := by kernel_rfl
theorem uPairs : Try.prog.underlying 26 = some (.slice 51) := by kernel_rfl
theorem iPair : (Try.prog.info? 51).map (fun i => (i.zero, i.size, i.bytes)) = some (some (.agg #[.int .i64 0, .int .i64 0]), 2, 16) := by kernel_rfl
/-- What 'ask' adds. -/
def askC (c : Ac) (a b : Nat) : Ac := if c.se (min a b, max a b) = true ∨ a = b then c else { c with se := fun k => k == (min a b, max a b) || c.se k, wt := c.wt ++ [(min a b, max a b)] }
section
variable {w : World} {p g : Nat} {x : Ax} {c : Ac} {N : Nat}
theorem AW.lookS (h : AW w p g x c N) (a b : Nat) (ha : a ≤ 10000) (hb : b ≤ 10000) {o : Bool} (ho : c.se (a, b) = o) : (Instr.lookup 59 (.map (some x.bS)) (.agg #[.int .i64 (a : Nat), .int .i64 (b : Nat)]) true).run Try.prog w = .ok (.tuple #[.agg #[], .bool o]) w := by
  obtain ⟨kl, hkl⟩ := keyPair (a := (a : Nat)) (b := (b : Nat)) (wfNat (by omega)) (wfNat (by omega))
  have := h.seen.look lawPair uSeen (zUnit _) hkl
  rw [seF_at, ho] at this
  exact this
theorem AW.putS (h : AW w p g x c N) (a b : Nat) (ha : a < N) (hb : b < N) : ∃ w', (Instr.mapUpdate 59 (.map (some x.bS)) (.agg #[.int .i64 (a : Nat), .int .i64 (b : Nat)]) (.agg #[])).run Try.prog w = .ok () w' ∧ AW w' p g x { c with se := fun k => k == (a, b) || c.se k } N ∧ Mv (fun q => q = x.bS) w w' := by
  have hs := h.small
  obtain ⟨kl, hkl⟩ := keyPair (a := (a : Nat)) (b := (b : Nat)) (wfNat (by omega)) (wfNat (by omega))
  have hN2 : N * N ≤ 10000 * 10000 := Nat.mul_le_mul hs hs
  obtain ⟨w', hrun, hm, ht⟩ := h.seen.put lawPair uSeen (by unfold maxLen; omega) hkl (seF (fun k => k == (a, b) || c.se k)) (by rw [seF_at]; simp) (seF_other (fun k hk => by simp [hk]))
  have seN : ∀ i j, (fun k => k == (a, b) || c.se k) (i, j) = true → i < N ∧ j < N := by
    intro i j hij
    simp at hij
    rcases hij with ⟨rfl, rfl⟩ | hij
    · exact ⟨ha, hb⟩
    · exact h.seN i j hij
  have hm2 := hm.tightBy lawPair (N * N) (fun v => match v with | .agg cs => (match cs.toList with | [.int _ y, .int _ z] => y.toNat * N + z.toNat | _ => 0) | _ => 0) (fun v hv => by
    obtain ⟨i, j, rfl, h1⟩ := seF_true hv
    obtain ⟨h2, h3⟩ := seN i j h1
    show Int.toNat (i : Int) * N + Int.toNat (j : Int) < N * N
    rw [Int.toNat_natCast, Int.toNat_natCast]
    have h4 := Nat.mul_le_mul_right N (show i + 1 ≤ N by omega)
    rw [Nat.add_mul] at h4
    omega) (fun v v' hv hv' e => by
    obtain ⟨i, j, rfl, h1⟩ := seF_true hv
    obtain ⟨i', j', rfl, h1'⟩ := seF_true hv'
    obtain ⟨h2, h3⟩ := seN i j h1
    obtain ⟨h2', h3'⟩ := seN i' j' h1'
    have e2 : Int.toNat (i : Int) * N + Int.toNat (j : Int) = Int.toNat (i' : Int) * N + Int.toNat (j' : Int) := e
    rw [Int.toNat_natCast, Int.toNat_natCast, Int.toNat_natCast, Int.toNat_natCast] at e2
    have ei : i = i' := by
      rcases Nat.lt_trichotomy i i' with g9 | g9 | g9
      · have h4 := Nat.mul_le_mul_right N (show i + 1 ≤ i' by omega)
        rw [Nat.add_mul] at h4
        omega
      · exact g9
      · have h4 := Nat.mul_le_mul_right N (show i' + 1 ≤ i by omega)
        rw [Nat.add_mul] at h4
        omega
    subst ei
    have : j = j' := by omega
    rw [this])
  obtain ⟨k1, k2⟩ := h.turnSeen ht hm2 seN
  exact ⟨w', hrun, k1, k2⟩
end
/-- What 'ask' leaves. -/
def AskEnd (p g : Nat) (x : Ax) (c : Ac) (d : Gd) (a b : Nat) (w w' : World) : Prop :=
  ∃ v, EX w' p g { x with vW := v } (askC c a b) d ∧ Mv (Fy p x) w w' ∧ (v.ownBlock = x.vW.ownBlock ∨ ∃ q, v.ownBlock = some q ∧ w.heap.size ≤ q)

set_option maxRecDepth 20000 in
set_option maxHeartbeats 16000000 in
theorem ask_any (p g : Nat) (x : Ax) (c : Ac) (d : Gd) (a b : Nat) (w : World) (h : EX w p g x c d) (ha : a < d.s.ns) (hb : b < d.s.ns) (hwt : c.wt.length ≤ 100000000) :
    Calls Try.prog 23 #[.pointer (some ⟨p, 0, none⟩), .int .i64 (a : Nat), .int .i64 (b : Nat)] w fun e w' => e = .returned (.tuple #[]) ∧ AskEnd p g x c d a b w w' := by
  obtain ⟨lo, hlo⟩ : ∃ lo, lo = min a b := ⟨_, rfl⟩
  obtain ⟨hi, hhi⟩ : ∃ hi, hi = max a b := ⟨_, rfl⟩
  have HLH : Hid (lo = min a b ∧ hi = max a b ∧ lo < d.s.ns ∧ hi < d.s.ns) := ⟨hlo, hhi, by omega, by omega⟩
  have e1 : (if b < a then (b : Int) else (a : Int)) = (lo : Int) := by split <;> omega
  have e2 : (if a < b then (b : Int) else (a : Int)) = (hi : Int) := by split <;> omega
  have hl1 : lo < d.s.ns := by omega
  have hh1 : hi < d.s.ns := by omega
  clear hlo hhi
  have hN := h.aw.small
  have hb0 : Below w.heap.size w (w.alloc (.cells #[.int .i64 (lo : Nat), .int .i64 (hi : Nat)] 51 (0, 0))) := (Below.refl _ _).alloc (Nat.le_refl _) _
  have kb : (w.alloc (.cells #[.int .i64 (lo : Nat), .int .i64 (hi : Nat)] 51 (0, 0))).heap[w.heap.size]? = _ := heap_alloc_new w _
  have hE0 := h.below hb0
  have HFY : Hid (∀ q, (Fy p x q ∨ Fh g d q) → q < w.heap.size) := fun q hq => hq.elim (fun h9 => h.aw.fyLt h9) (fun h9 => h.gw.hlt h9)
  have HB0 : Hid (Below w.heap.size w (w.alloc (.cells #[.int .i64 (lo : Nat), .int .i64 (hi : Nat)] 51 (0, 0)))) := hb0
  clear h hb0
  go_enter Try.func23, Try.ntmps23
  go_wp2
  clear e1 e2
  generalize (w.alloc (.cells #[.int .i64 (lo : Nat), .int .i64 (hi : Nat)] 51 (0, 0))) = w1 at hE0 kb HB0 ⊢
  have d0 : w1.cell? ⟨w.heap.size, 0, none⟩ = some (.int .i64 (lo : Nat)) := cell_of_row _ w.heap.size 0 _ 51 (0, 0) kb
  have d1 : w1.cell? ⟨w.heap.size, 1, none⟩ = some (.int .i64 (hi : Nat)) := cell_of_row _ w.heap.size 1 _ 51 (0, 0) kb
  obtain ⟨-, s1, -, -, -⟩ := hE0.aw.cells
  have hpl := hE0.aw.lt
  have hql : w.heap.size < w1.heap.size := (Array.getElem?_eq_some_iff.1 kb).1
  obtain ⟨o, hse⟩ : ∃ o, c.se (lo, hi) = o := ⟨_, rfl⟩
  have HSE : Hid (c.se (lo, hi) = o) := hse
  have l1 := (hE0.below (Below.refl _ _).drew).aw.lookS lo hi (by omega) (by omega) hse
  have l2 := (hE0.below ((Below.refl w1.heap.size w1).alloc (Nat.le_refl _) (.cells #[] 92 (0, 0))).drew).aw.lookS lo hi (by omega) (by omega) hse
  have HE0 : Hid (EX w1 p g x c d) := hE0
  have HD : Hid (w1.cell? ⟨w.heap.size, 0, none⟩ = some (.int .i64 (lo : Nat)) ∧ w1.cell? ⟨w.heap.size, 1, none⟩ = some (.int .i64 (hi : Nat)) ∧ w.heap.size < w1.heap.size) := ⟨d0, d1, hql⟩
  clear hE0 hse kb
  go_cut [8] (fun v8 wx => v8 = .bool o ∧ Below w1.heap.size w1 wx)
  case first =>
    go_region
    all_goals (go_wp2_with fail; go_meet)
    all_goals exact ⟨rfl, ((Below.refl w1.heap.size w1).alloc (Nat.le_refl _) (.cells #[] 92 (0, 0))).drew⟩
  case rest =>
    clear d0 d1 s1 hpl hql l1 l2
    obtain ⟨rfl, hbc⟩ := hcut
    have HEc : Hid (EX wc p g x c d) := HE0.out.below hbc
    have HBc : Hid (Below w.heap.size w wc) := HB0.out.trans (hbc.mono (Nat.le_of_lt HD.out.2.2))
    have d0 : wc.cell? ⟨w.heap.size, 0, none⟩ = some (.int .i64 (lo : Nat)) := (hbc.cell (p := ⟨w.heap.size, 0, none⟩) HD.out.2.2).trans HD.out.1
    have d1 : wc.cell? ⟨w.heap.size, 1, none⟩ = some (.int .i64 (hi : Nat)) := (hbc.cell (p := ⟨w.heap.size, 1, none⟩) HD.out.2.2).trans HD.out.2.1
    have hql : w.heap.size < wc.heap.size := Nat.lt_of_lt_of_le HD.out.2.2 hbc.size
    clear hbc HE0 HD HB0
    have HSAME : Hid (c.se (min a b, max a b) = true ∨ a = b → AskEnd p g x c d a b w wc) := fun h9 => ⟨x.vW, by unfold askC; rw [if_pos h9]; exact HEc.out, Mv.below HBc.out, Or.inl rfl⟩
    cases o with
    | true =>
      have HY : Hid (c.se (min a b, max a b) = true) := by show _ = _; rw [← HLH.out.1, ← HLH.out.2.1]; exact HSE.out
      clear d0 d1 hql
      go_wp2
      refine bodyPost_ret (v := .tuple #[]) (by simp [results, Try.results23, go_sem]) rfl ?_
      exact ⟨rfl, HSAME.out (Or.inl HY.out)⟩
    | false =>
      by_cases hab : a = b
      · have HY : Hid (a = b) := hab
        have habI : (a : Int) = (b : Int) := by omega
        clear d0 d1 hql hab
        go_wp2
        refine bodyPost_ret (v := .tuple #[]) (by simp [results, Try.results23, go_sem]) rfl ?_
        exact ⟨rfl, HSAME.out (Or.inr HY.out)⟩
      · have habI : ¬ ((a : Int) = (b : Int)) := by omega
        have HY : Hid (askC c a b = { c with se := fun k => k == (lo, hi) || c.se k, wt := c.wt ++ [(lo, hi)] }) := by
          show _ = _
          unfold askC
          rw [← HLH.out.1, ← HLH.out.2.1, HSE.out, if_neg (by simp [hab])]
        clear hab HSAME
        obtain ⟨w5, hrun, hA5, hM5⟩ := (HEc.out.below (Below.refl _ _).drew).aw.putS lo hi hl1 hh1
        have hE5 : EX w5 p g x { c with se := fun k => k == (lo, hi) || c.se k } d := (HEc.out.below (Below.refl _ _).drew).mv hM5 (fun q hq => Or.inl (Or.inr (Or.inl hq))) hA5 (fun q hq => Or.inl hq)
        obtain ⟨-, s1, -, -, -⟩ := HEc.out.aw.cells
        have hpl := HEc.out.aw.lt
        have hne0 : w.heap.size ≠ x.bS := fun e => by have := HFY.out x.bS (Or.inl (Or.inr (Or.inl rfl))); omega
        have d05 : w5.cell? ⟨w.heap.size, 0, none⟩ = some (.int .i64 (lo : Nat)) := (World.cell?_of_block (a := ⟨w.heap.size, 0, none⟩) (hM5.other _ hql hne0)).trans d0
        have d15 : w5.cell? ⟨w.heap.size, 1, none⟩ = some (.int .i64 (hi : Nat)) := (World.cell?_of_block (a := ⟨w.heap.size, 1, none⟩) (hM5.other _ hql hne0)).trans d1
        have hql5 : w.heap.size < w5.heap.size := Nat.lt_of_lt_of_le hql hM5.size
        go_wp2
        go_region
        go_wp2
        have HE5 : Hid (EX w5 p g x { c with se := fun k => k == (lo, hi) || c.se k } d) := hE5
        have HM5c : Hid (Mv (Fy p x) w w5) := ((Mv.below (F := Fy p x) HBc.out).drew).trans hM5 (fun q hq => Or.inl (Or.inr (Or.inl hq)))
        clear d0 d1 hql hrun hA5 hM5 s1 hpl hE5
        have hpl := HE5.out.aw.lt
        have hwb : x.vW.ownBlock ≠ some w.heap.size := fun e => by have := HFY.out _ (Or.inl (Or.inr (Or.inr (Or.inr (Or.inl e))))); omega
        have hwp : x.vW.ownBlock ≠ some p := HE5.out.aw.wait.neB HE5.out.aw.blk (by decide)
        have m0 : w5.cell? ⟨p, 2, none⟩ = some x.vW := HE5.out.aw.cells.2.2.1
        have hblk := HE5.out.aw.blk
        obtain ⟨E5, hE5⟩ : ∃ E5 : World → Prop, E5 = fun wr => ∃ v, EX wr p g { x with vW := v } { c with se := fun k => k == (lo, hi) || c.se k, wt := c.wt ++ [(lo, hi)] } d ∧ Mv (Fy p x) w5 wr ∧ (v.ownBlock = x.vW.ownBlock ∨ ∃ q, v.ownBlock = some q ∧ w5.heap.size ≤ q) := ⟨_, rfl⟩
        obtain ⟨M5, hM5⟩ : ∃ M5 : World → Prop, M5 = fun wr => wr.cell? ⟨p, 2, none⟩ = some x.vW ∧ wr.cell? ⟨w.heap.size, 0, none⟩ = some (.int .i64 (lo : Nat)) ∧ wr.cell? ⟨w.heap.size, 1, none⟩ = some (.int .i64 (hi : Nat)) := ⟨_, rfl⟩
        have HM0 : Hid (∀ wr, Below w5.heap.size w5 wr → M5 wr) := by
          intro wr h1; rw [hM5]
          exact ⟨(h1.cell (p := ⟨p, 2, none⟩) hpl).trans m0, (h1.cell (p := ⟨w.heap.size, 0, none⟩) hql5).trans d05, (h1.cell (p := ⟨w.heap.size, 1, none⟩) hql5).trans d15⟩
        have HM1 : Hid (∀ wr v9, App x.vW v9 w5 wr → M5 wr) := by
          intro wr v9 h1; rw [hM5]
          exact ⟨(World.cell?_of_block (a := ⟨p, 2, none⟩) (h1.other p hpl hwp)).trans m0, (World.cell?_of_block (a := ⟨w.heap.size, 0, none⟩) (h1.other _ hql5 hwb)).trans d05, (World.cell?_of_block (a := ⟨w.heap.size, 1, none⟩) (h1.other _ hql5 hwb)).trans d15⟩
        have HFZ : Hid (∀ wr v9, App x.vW v9 w5 wr → wr.cell? ⟨p, 2, none⟩ = some x.vW ∧ wr.frozen? ⟨p, 2, none⟩ = false) := by
          intro wr v9 h1
          have h2 := HM1.out wr v9 h1
          rw [hM5] at h2
          exact ⟨h2.1, frozen_of_row wr p 2 _ 62 ((h1.other p hpl hwp).trans hblk)⟩
        have HOWN : Hid (∀ wr, Below w5.heap.size w5 wr → OL 2 51 wr x.vW c.wt.length (prC c.wt)) := fun wr h1 => (HE5.out.below h1).aw.wait
        have HNB : Hid (c.wt.length + 1 ≤ 1000000000) := by show _ ≤ _; omega
        have HSET : Hid (∀ wr v9, OL 2 51 wr v9 (c.wt.length + 1) (prC (c.wt ++ [(lo, hi)])) → App x.vW v9 w5 wr → v9 ≠ .slice none 0 0 → E5 (wr.setCell ⟨p, 2, none⟩ v9)) := by
          intro wr v9 h1 h2 h3
          rw [hE5]
          obtain ⟨k1, k2⟩ := HE5.out.aw.pushWait (lo, hi) h2 h1
          have k3 : Mv (Fy p x) w5 (wr.setCell ⟨p, 2, none⟩ v9) := ⟨k2.os, k2.tape, k2.output, k2.size, fun q hq hn => k2.other q hq (fun h9 => hn (h9.elim Or.inl (fun h8 => Or.inr (Or.inr (Or.inr (Or.inl h8))))))⟩
          refine ⟨v9, HE5.out.mv k3 (fun q hq => Or.inl hq) k1 (fun q hq => ?_), k3, h2.at_⟩
          rcases hq with hq | hq | hq | hq | hq
          · exact Or.inl (Or.inl hq)
          · exact Or.inl (Or.inr (Or.inl hq))
          · exact Or.inl (Or.inr (Or.inr (Or.inl hq)))
          · rcases h2.at_ with e9 | ⟨q', e8, e9⟩
            · exact Or.inl (Or.inr (Or.inr (Or.inr (Or.inl (e9.symm.trans hq)))))
            · right
              have := e8.symm.trans hq
              injection this with this
              omega
          · exact Or.inl (Or.inr (Or.inr (Or.inr (Or.inr hq))))
        clear m0 hblk hwb hwp d05 d15
        refine wp_region_E (by kernel_rfl) [some 37, some 38, some 39, some 40, some 41, some 42, some 43, some 44, some 45, some 46, none] [none, none, none, none, none, none, none, none, none, none, none, none, none, none, none, none, none, none, none, none, none, none, none, none, none, none, none, none, none, none, none, none, none, none, none, none, none, some 37, some 38, some 39, some 40, some 41, some 42, some 43, some 44, some 45, some 46] (fun U => by kernel_rfl) [fun u => u = (.pointer (some ⟨p, 0, none⟩)), fun u => u = (.pointer (some ⟨p, 0, none⟩)), fun u => u = (.pointer (some ⟨p, 0, none⟩)), fun u => u = (.pointer (some ⟨p, 2, none⟩)), fun u => u = (x.vW), fun u => u = (.agg #[.int .i64 (lo : Nat), .int .i64 (hi : Nat)]), fun _ => True, fun _ => True, fun u => u = (.pointer (some ⟨p, 0, none⟩)), fun u => u = (.pointer (some ⟨p, 2, none⟩)), fun _ => True] (fun L U wr => (L 7 = false → Below w5.heap.size w5 wr) ∧ (L 6 = true → L 7 = false → ONE5 51 [.int .i64 (lo : Nat), .int .i64 (hi : Nat)] (U 43) wr) ∧ (L 7 = true → L 10 = false → OL 2 51 wr (U 44) (c.wt.length + 1) (prC (c.wt ++ [(lo, hi)])) ∧ App (x.vW) (U 44) w5 wr ∧ U 44 ≠ .slice none 0 0) ∧ (L 10 = true → (L 0 = true ∧ L 1 = true ∧ L 2 = true ∧ L 3 = true ∧ L 4 = true ∧ L 5 = true ∧ L 6 = true ∧ L 7 = true ∧ L 8 = true ∧ L 9 = true) ∧ E5 wr)) (by kernel_rfl) (by decide) (by kernel_rfl) (by kernel_rfl) ?_ ?_ ?_
        · exact fun U => ⟨fun _ => (Below.refl _ _).drew, (fun h => by cases h), (fun h => by cases h), (fun h => by cases h)⟩
        · refine StepsE.run rfl ?_ ?_
          · intro L U wr hC hP hlk hcl haf A K hFm hK
            simp [Aft, Region.binds] at haf
            have e0 : A.tmps[0]? = some (.pointer (some ⟨p, 0, none⟩)) := (hFm.old 0 (by decide)).trans (by kernel_rfl)
            have HC : Hid _ := hC
            clear hC
            refine ⟨?_⟩
            go_simp
            refine hK _ _ rfl ?_
            obtain ⟨c0, cB, c1, cS⟩ := HC.out
            refine ⟨fun h => c0 (by simpa using h), (fun h1 h2 => by have h9 := cB (by simpa using h1) (by simpa using h2); simpa [updO, Go.Proofs.Ytmnpefiaelpkfac.upd] using h9), (fun h1 h2 => by have h9 := c1 (by simpa using h1) (by simpa using h2); simpa [updO, Go.Proofs.Ytmnpefiaelpkfac.upd] using h9), fun h => ?_⟩
            have h9 := cS (by simpa using h)
            exact ⟨by simp [h9.1], h9.2⟩
          refine StepsE.run rfl ?_ ?_
          · intro L U wr hC hP hlk hcl haf A K hFm hK
            simp [Aft, Region.binds] at haf
            have e0 : A.tmps[0]? = some (.pointer (some ⟨p, 0, none⟩)) := (hFm.old 0 (by decide)).trans (by kernel_rfl)
            have HC : Hid _ := hC
            clear hC
            refine ⟨?_⟩
            go_simp
            refine hK _ _ rfl ?_
            obtain ⟨c0, cB, c1, cS⟩ := HC.out
            refine ⟨fun h => c0 (by simpa using h), (fun h1 h2 => by have h9 := cB (by simpa using h1) (by simpa using h2); simpa [updO, Go.Proofs.Ytmnpefiaelpkfac.upd] using h9), (fun h1 h2 => by have h9 := c1 (by simpa using h1) (by simpa using h2); simpa [updO, Go.Proofs.Ytmnpefiaelpkfac.upd] using h9), fun h => ?_⟩
            have h9 := cS (by simpa using h)
            exact ⟨by simp [h9.1], h9.2⟩
          refine StepsE.run rfl ?_ ?_
          · intro L U wr hC hP hlk hcl haf A K hFm hK
            simp [Aft, Region.binds] at haf
            have g1 : U 38 = (.pointer (some ⟨p, 0, none⟩)) := hP 1 38 (by simp [haf]) rfl
            have e38 : A.tmps[38]? = some (.pointer (some ⟨p, 0, none⟩)) := hFm.is 1 38 rfl g1
            have HC : Hid _ := hC
            clear hC
            refine ⟨?_⟩
            go_simp
            refine hK _ _ rfl ?_
            obtain ⟨c0, cB, c1, cS⟩ := HC.out
            refine ⟨fun h => c0 (by simpa using h), (fun h1 h2 => by have h9 := cB (by simpa using h1) (by simpa using h2); simpa [updO, Go.Proofs.Ytmnpefiaelpkfac.upd] using h9), (fun h1 h2 => by have h9 := c1 (by simpa using h1) (by simpa using h2); simpa [updO, Go.Proofs.Ytmnpefiaelpkfac.upd] using h9), fun h => ?_⟩
            have h9 := cS (by simpa using h)
            exact ⟨by simp [h9.1], h9.2⟩
          refine StepsE.run rfl ?_ ?_
          · intro L U wr hC hP hlk hcl haf A K hFm hK
            simp [Aft, Region.binds] at haf
            have g2 : U 39 = (.pointer (some ⟨p, 0, none⟩)) := hP 2 39 (by simp [haf]) rfl
            have e39 : A.tmps[39]? = some (.pointer (some ⟨p, 0, none⟩)) := hFm.is 2 39 rfl g2
            have HC : Hid _ := hC
            clear hC
            refine ⟨?_⟩
            go_simp
            refine hK _ _ rfl ?_
            obtain ⟨c0, cB, c1, cS⟩ := HC.out
            refine ⟨fun h => c0 (by simpa using h), (fun h1 h2 => by have h9 := cB (by simpa using h1) (by simpa using h2); simpa [updO, Go.Proofs.Ytmnpefiaelpkfac.upd] using h9), (fun h1 h2 => by have h9 := c1 (by simpa using h1) (by simpa using h2); simpa [updO, Go.Proofs.Ytmnpefiaelpkfac.upd] using h9), fun h => ?_⟩
            have h9 := cS (by simpa using h)
            exact ⟨by simp [h9.1], h9.2⟩
          refine StepsE.run rfl ?_ ?_
          · intro L U wr hC hP hlk hcl haf A K hFm hK
            simp [Aft, Region.binds] at haf
            have g3 : U 40 = (.pointer (some ⟨p, 2, none⟩)) := hP 3 40 (by simp [haf]) rfl
            have e40 : A.tmps[40]? = some (.pointer (some ⟨p, 2, none⟩)) := hFm.is 3 40 rfl g3
            have hM8 : M5 wr := by
              obtain ⟨c0, cB, c1, cS⟩ := hC
              have hs : L 10 = false := by cases h : L 10 with | false => rfl | true => exact absurd (cS h).1 (by simp [hlk])
              cases h14 : L 7 with
              | false => exact HM0.out wr (c0 h14)
              | true => exact HM1.out wr (U 44) (c1 h14 hs).2.1
            rw [hM5] at hM8
            obtain ⟨m7, mq0, mq1⟩ := hM8
            have HC : Hid _ := hC
            clear hC
            refine ⟨?_⟩
            go_simp
            refine hK _ _ rfl ?_
            obtain ⟨c0, cB, c1, cS⟩ := HC.out
            refine ⟨fun h => c0 (by simpa using h), (fun h1 h2 => by have h9 := cB (by simpa using h1) (by simpa using h2); simpa [updO, Go.Proofs.Ytmnpefiaelpkfac.upd] using h9), (fun h1 h2 => by have h9 := c1 (by simpa using h1) (by simpa using h2); simpa [updO, Go.Proofs.Ytmnpefiaelpkfac.upd] using h9), fun h => ?_⟩
            have h9 := cS (by simpa using h)
            exact ⟨by simp [h9.1], h9.2⟩
          refine StepsE.run rfl ?_ ?_
          · intro L U wr hC hP hlk hcl haf A K hFm hK
            simp [Aft, Region.binds] at haf
            have e6 : A.tmps[6]? = some (.pointer (some ⟨w.heap.size, 0, none⟩)) := (hFm.old 6 (by decide)).trans (by kernel_rfl)
            have hM8 : M5 wr := by
              obtain ⟨c0, cB, c1, cS⟩ := hC
              have hs : L 10 = false := by cases h : L 10 with | false => rfl | true => exact absurd (cS h).1 (by simp [hlk])
              cases h14 : L 7 with
              | false => exact HM0.out wr (c0 h14)
              | true => exact HM1.out wr (U 44) (c1 h14 hs).2.1
            rw [hM5] at hM8
            obtain ⟨m7, mq0, mq1⟩ := hM8
            have HC : Hid _ := hC
            clear hC
            refine ⟨?_⟩
            go_simp
            refine hK _ _ rfl ?_
            obtain ⟨c0, cB, c1, cS⟩ := HC.out
            refine ⟨fun h => c0 (by simpa using h), (fun h1 h2 => by have h9 := cB (by simpa using h1) (by simpa using h2); simpa [updO, Go.Proofs.Ytmnpefiaelpkfac.upd] using h9), (fun h1 h2 => by have h9 := c1 (by simpa using h1) (by simpa using h2); simpa [updO, Go.Proofs.Ytmnpefiaelpkfac.upd] using h9), fun h => ?_⟩
            have h9 := cS (by simpa using h)
            exact ⟨by simp [h9.1], h9.2⟩
          refine StepsE.run rfl ?_ ?_
          · intro L U wr hC hP hlk hcl haf A K hFm hK
            simp [Aft, Region.binds] at haf
            have g5 : U 42 = (.agg #[.int .i64 (lo : Nat), .int .i64 (hi : Nat)]) := hP 5 42 (by simp [haf]) rfl
            have e42 : A.tmps[42]? = some (.agg #[.int .i64 (lo : Nat), .int .i64 (hi : Nat)]) := hFm.is 5 42 rfl g5
            have hA9 : L 7 = false := by cases h : L 7 with | false => rfl | true => have h9 := hcl 7 _ rfl h; simp [Aft, Region.binds, hlk] at h9
            refine ⟨?_⟩
            go_simp
            refine hK _ _ trivial ⟨fun h => ?_, fun _ _ => ?_, fun h1 h2 => ?_, fun h => ?_⟩
            · exact ((hC.1 hA9).alloc (hC.1 hA9).size _)
            · exact ⟨wr.heap.size, rfl, heap_alloc_new wr _⟩
            · simp [hA9] at h1
            · have h9 := (hC.2.2.2 (by simpa using h)).1
              simp [hlk] at h9
          refine StepsE.run rfl ?_ ?_
          · intro L U wr hC hP hlk hcl haf A K hFm hK
            simp [Aft, Region.binds] at haf
            have g4 : U 41 = (x.vW) := hP 4 41 (by simp [haf]) rfl
            have e41 : A.tmps[41]? = some (x.vW) := hFm.is 4 41 rfl g4
            have e43 : A.tmps[43]? = some (U 43) := hFm.got 6 43 rfl
            have l6 : L 6 = true := by simp [haf]
            refine ⟨?_⟩
            refine wp_push1 (.tmp 41) (.tmp 43) 26 rfl 2 51 _ 16 uPairs iPair (by decide) rfl (by decide) (x.vW) (c.wt.length) (prC c.wt) (by simp [Act.eval, e41]) (HOWN.out wr (hC.1 hlk)) (fun _ _ => rfl) [.int .i64 (lo : Nat), .int .i64 (hi : Nat)] 51 (U 43) (hC.2.1 l6 hlk) (by simp [Act.eval, e43]) rfl (by intro u hu; simp at hu; rcases hu with rfl | rfl <;> rfl) HNB.out (prC (c.wt ++ [(lo, hi)])) (fun k hk => by simp [prC, List.getElem?_append_left hk]) (by simp [prC]) ?_
            intro v9 w9 hol9 hap9 hne9
            refine hK _ _ trivial ⟨fun h => ?_, fun _ h => ?_, fun _ _ => ?_, fun h => ?_⟩
            · simp at h
            · simp at h
            · simp only [updO, Go.Proofs.Ytmnpefiaelpkfac.upd, beq_self_eq_true, cond_true]; exact ⟨hol9, hap9.ofBelow (hC.1 hlk), hne9⟩
            · have h9 := (hC.2.2.2 (by simpa using h)).1
              simp [hlk] at h9
          refine StepsE.run rfl ?_ ?_
          · intro L U wr hC hP hlk hcl haf A K hFm hK
            simp [Aft, Region.binds] at haf
            have g0 : U 37 = (.pointer (some ⟨p, 0, none⟩)) := hP 0 37 (by simp [haf]) rfl
            have e37 : A.tmps[37]? = some (.pointer (some ⟨p, 0, none⟩)) := hFm.is 0 37 rfl g0
            have HC : Hid _ := hC
            clear hC
            refine ⟨?_⟩
            go_simp
            refine hK _ _ rfl ?_
            obtain ⟨c0, cB, c1, cS⟩ := HC.out
            refine ⟨fun h => c0 (by simpa using h), (fun h1 h2 => by have h9 := cB (by simpa using h1) (by simpa using h2); simpa [updO, Go.Proofs.Ytmnpefiaelpkfac.upd] using h9), (fun h1 h2 => by have h9 := c1 (by simpa using h1) (by simpa using h2); simpa [updO, Go.Proofs.Ytmnpefiaelpkfac.upd] using h9), fun h => ?_⟩
            have h9 := cS (by simpa using h)
            exact ⟨by simp [h9.1], h9.2⟩
          refine StepsE.run rfl ?_ ?_
          · intro L U wr hC hP hlk hcl haf A K hFm hK
            simp [Aft, Region.binds] at haf
            have g8 : U 45 = (.pointer (some ⟨p, 0, none⟩)) := hP 8 45 (by simp [haf]) rfl
            have e45 : A.tmps[45]? = some (.pointer (some ⟨p, 0, none⟩)) := hFm.is 8 45 rfl g8
            have HC : Hid _ := hC
            clear hC
            refine ⟨?_⟩
            go_simp
            refine hK _ _ rfl ?_
            obtain ⟨c0, cB, c1, cS⟩ := HC.out
            refine ⟨fun h => c0 (by simpa using h), (fun h1 h2 => by have h9 := cB (by simpa using h1) (by simpa using h2); simpa [updO, Go.Proofs.Ytmnpefiaelpkfac.upd] using h9), (fun h1 h2 => by have h9 := c1 (by simpa using h1) (by simpa using h2); simpa [updO, Go.Proofs.Ytmnpefiaelpkfac.upd] using h9), fun h => ?_⟩
            have h9 := cS (by simpa using h)
            exact ⟨by simp [h9.1], h9.2⟩
          refine StepsE.run rfl ?_ StepsE.nil
          · intro L U wr hC hP hlk hcl haf A K hFm hK
            simp [Aft, Region.binds] at haf
            have g9 : U 46 = (.pointer (some ⟨p, 2, none⟩)) := hP 9 46 (by simp [haf]) rfl
            have e46 : A.tmps[46]? = some (.pointer (some ⟨p, 2, none⟩)) := hFm.is 9 46 rfl g9
            have e44 : A.tmps[44]? = some (U 44) := hFm.got 7 44 rfl
            have l9 : L 9 = true := by simp [haf]
            have l7 : L 7 = true := by simp [haf]
            have a9 := hcl 9 _ rfl l9
            simp [Aft, Region.binds] at a9
            have l8 : L 8 = true := by simp [a9]
            have a7 := hcl 7 _ rfl l7
            simp [Aft, Region.binds] at a7
            have l4 : L 4 = true := by simp [a7]
            have l6 : L 6 = true := by simp [a7]
            have a8 := hcl 8 _ rfl l8
            simp [Aft, Region.binds] at a8
            have l0 : L 0 = true := by simp [a8]
            have a4 := hcl 4 _ rfl l4
            simp [Aft, Region.binds] at a4
            have l3 : L 3 = true := by simp [a4]
            have a6 := hcl 6 _ rfl l6
            simp [Aft, Region.binds] at a6
            have l5 : L 5 = true := by simp [a6]
            have a3 := hcl 3 _ rfl l3
            simp [Aft, Region.binds] at a3
            have l2 : L 2 = true := by simp [a3]
            have a2 := hcl 2 _ rfl l2
            simp [Aft, Region.binds] at a2
            have l1 : L 1 = true := by simp [a2]
            refine ⟨?_⟩
            obtain ⟨hol9, hap9, hne9⟩ := hC.2.2.1 l7 hlk
            have HKK : Hid _ := HSET.out wr (U 44) hol9 hap9 hne9
            obtain ⟨k4, k5⟩ := HFZ.out wr (U 44) hap9
            obtain ⟨ao9, cc9, hv9, -, -, -, -⟩ := hol9.shape
            obtain ⟨nl, hnl⟩ : ∃ nl, nl = c.wt.length + 1 := ⟨_, rfl⟩
            rw [← hnl] at hv9
            clear hnl
            have e44 : A.tmps[44]? = some (.slice ao9 nl cc9) := hFm.is 7 44 rfl hv9
            rw [hv9] at HKK
            clear hol9 hap9 hne9 hC
            go_simp
            refine hK (.tuple #[]) _ trivial ⟨fun h => ?_, fun h1 h2 => ?_, fun h1 h2 => ?_, fun _ => ⟨?_, HKK.out⟩⟩
            · simp [l7] at h
            · simp [l7] at h2
            · simp at h2
            · simp [l0, l1, l2, l3, l4, l5, l6, l7, l8, l9]
        intro L U5 V5 hall hC hP
        have hE := (hC.2.2.2 (hall 10 (by decide))).2
        rw [hE5] at hE
        clear hC hP hall hE5 hM5 HM0 HM1 HFZ HOWN HSET
        have HE : Hid _ := hE
        clear hE
        simp only [setM_some, setM_none, setM_nil]
        go_wp2
        go_end0
        obtain ⟨v, q1, q2, q3⟩ := HE.out
        refine ⟨rfl, v, by rw [HY.out]; exact q1, HM5c.out.trans q2 (fun q hq => Or.inl hq), ?_⟩
        rcases q3 with h9 | ⟨q, h8, h9⟩
        · exact Or.inl h9
        · exact Or.inr ⟨q, h8, Nat.le_trans HM5c.out.size h9⟩
end Euf
end Go.Proofs.Ytmnpefiaelpkfac
/- What is known while one goes after why, step by step; no statement of the seat is proved here. -/
namespace Go.Proofs.Ytmnpefiaelpkfac
open Go.RowKit
set_option linter.unusedVariables false
namespace Euf
/-- How many ways up were gone. -/
def gone1 (ab : Nat → Option Nat) (i : Nat) : Nat := if (ab i).isSome = true then 1 else 0
def gc (ns : Nat) (ab : Nat → Option Nat) : Nat := total (gone1 ab) ns
theorem gc_le (ab : Nat → Option Nat) : ∀ n, gc n ab ≤ n
  | 0 => Nat.le_refl _
  | n + 1 => by
    have := gc_le ab n
    unfold gc at this ⊢
    rw [total]
    have : gone1 ab n ≤ 1 := by unfold gone1; split <;> omega
    omega
theorem gc_congr {ab ab' : Nat → Option Nat} (h : ∀ k, AbG ab' k ↔ AbG ab k) (n : Nat) : gc n ab' = gc n ab := by
  refine total_congr n (fun i _ => ?_)
  unfold gone1
  have := h i
  unfold AbG at this
  by_cases e : (ab i).isSome = true
  · rw [if_pos e, if_pos (this.2 e)]
  · rw [if_neg e, if_neg (fun h9 => e (this.1 h9))]
theorem gc_mark {ab : Nat → Option Nat} {n i y : Nat} (hi : i < n) (h : ¬ AbG ab i) : gc n (upd ab i (some y)) = gc n ab + 1 := by
  have h1 := total_upd (gone1 ab) i 1 n hi
  have e0 : gone1 ab i = 0 := by unfold gone1; exact if_neg h
  have e : gc n (upd ab i (some y)) = total (upd (gone1 ab) i 1) n := by
    refine total_congr n (fun j _ => ?_)
    by_cases e2 : j = i
    · subst e2; simp [gone1, upd]
    · simp [gone1, upd, e2]
  unfold gc at *
  omega
def mes (ns : Nat) (c : Ac) : Nat := c.wt.length + 2 * (ns - gc ns c.ab)
structure Know (f : Fx) (s : Sx) (c : Ac) (ex : Nat × Nat → Prop) : Prop where
  ab : AbOk s.ns s.S c.ab
  acc : Acc f s.S (AbG c.ab) c.se c.eq
  pairs : ∀ x y, c.se (x, y) = true → x < s.ns ∧ y < s.ns ∧ (∃ r, Anc s.S x r ∧ Anc s.S y r) ∧ ((x, y) ∈ c.wt ∨ Meet s.S (AbG c.ab) x y ∨ ex (x, y))
  wts : ∀ q ∈ c.wt, c.se q = true
  len : c.eq.length ≤ gc s.ns c.ab
section
variable {f : Fx} {s : Sx} {c : Ac} {ex : Nat × Nat → Prop}
theorem up_lt (hI : Inv f.np f.P s.ns s.S s.sg [] []) {A : Nat → Prop} {x r : Nat} (h : Up s.S A x r) : x < s.ns → r < s.ns := by
  induction h with
  | refl => exact id
  | step _ e _ ih =>
    intro hy
    have h9 := hI.upc _ hy (by omega)
    rw [e] at h9
    exact ih (by simpa using h9.2.1)
theorem meet_more (hI : Inv f.np f.P s.ns s.S s.sg [] []) {G : Nat → Prop} {ab : Nat → Option Nat} (h2 : AbOk s.ns s.S ab) (hs : ∀ i, G i → AbG ab i) {x y : Nat} (hx : x < s.ns) (h : Meet s.S G x y) : Meet s.S (AbG ab) x y := by
  obtain ⟨R, r1, r2, r3⟩ := h
  have hR := up_lt hI r1 hx
  obtain ⟨n, hn⟩ := hI.ups R hR
  obtain ⟨R', k0, k1, k2⟩ := h2.first n R hR hn
  exact ⟨R', (r1.mono hs).trans k1, (r2.mono hs).trans k1, k2⟩
/-- Another table of the same ways. -/
theorem Know.table (h : Know f s c ex) {ab : Nat → Option Nat} (h1 : AbOk s.ns s.S ab) (h2 : ∀ k, AbG ab k ↔ AbG c.ab k) : Know f s { c with ab := ab } ex := by
  have e : AbG ab = AbG c.ab := funext fun k => propext (h2 k)
  refine ⟨h1, ?_, ?_, h.wts, by show c.eq.length ≤ gc s.ns ab; rw [gc_congr h2]; exact h.len⟩
  · show Acc f s.S (AbG ab) c.se c.eq
    rw [e]; exact h.acc
  · show ∀ x y, c.se (x, y) = true → x < s.ns ∧ y < s.ns ∧ (∃ r, Anc s.S x r ∧ Anc s.S y r) ∧ ((x, y) ∈ c.wt ∨ Meet s.S (AbG ab) x y ∨ ex (x, y))
    rw [e]; exact h.pairs
theorem askC_asked (c : Ac) (a b : Nat) : Asked (askC c a b).se a b := by
  unfold askC
  split
  · rename_i h
    rcases h with h | h
    · exact Or.inr h
    · exact Or.inl h
  · exact Or.inr (by simp)
theorem askC_mono (c : Ac) (a b : Nat) : (∀ q, c.se q = true → (askC c a b).se q = true) ∧ (∀ q ∈ c.wt, q ∈ (askC c a b).wt) ∧ (askC c a b).ab = c.ab ∧ (askC c a b).eq = c.eq ∧ (askC c a b).wt.length ≤ c.wt.length + 1 := by
  unfold askC
  split
  · exact ⟨fun _ h => h, fun _ h => h, rfl, rfl, by omega⟩
  · exact ⟨fun q h => by simp [h], fun q h => by simp [h], rfl, rfl, by simp⟩
theorem askC_new (c : Ac) (a b : Nat) {q : Nat × Nat} (h : (askC c a b).se q = true) : c.se q = true ∨ (q = (min a b, max a b) ∧ q ∈ (askC c a b).wt) := by
  unfold askC at h ⊢
  split at h
  · exact Or.inl h
  · rename_i hn
    rw [if_neg hn]
    simp at h
    rcases h with h | h
    · exact Or.inr ⟨h, by simp [h]⟩
    · exact Or.inl h
theorem askC_wts (c : Ac) (a b : Nat) (h : ∀ q ∈ c.wt, c.se q = true) : ∀ q ∈ (askC c a b).wt, (askC c a b).se q = true := by
  unfold askC
  split
  · exact h
  · intro q hq
    simp at hq ⊢
    rcases hq with hq | hq
    · exact Or.inr (h q hq)
    · exact Or.inl hq
theorem Asked.mono {se se' : Nat × Nat → Bool} (hs : ∀ q, se q = true → se' q = true) {x y : Nat} (h : Asked se x y) : Asked se' x y := h.imp id (hs _)
/-- More is asked for. -/
theorem Know.ask (h : Know f s c ex) {a b : Nat} (ha : a < s.ns) (hb : b < s.ns) (hr : ∃ r, Anc s.S a r ∧ Anc s.S b r) : Know f s (askC c a b) ex := by
  obtain ⟨m1, m2, m3, m4, m5⟩ := askC_mono c a b
  refine ⟨by rw [m3]; exact h.ab, ⟨?_, ?_, ?_, ?_⟩, fun x y hxy => ?_, askC_wts c a b h.wts, by rw [m3, m4]; exact h.len⟩
  · rw [m3, m4]; exact h.acc.eqs
  · rw [m3, m4]; exact h.acc.mem
  · rw [m4]; exact h.acc.nodup
  · rw [m3]; exact fun i hi hw => ⟨(h.acc.made i hi hw).1.mono m1, (h.acc.made i hi hw).2.mono m1⟩
  · rw [m3]
    rcases askC_new c a b hxy with h9 | ⟨h9, h8⟩
    · obtain ⟨k1, k2, k3, k4⟩ := h.pairs x y h9
      exact ⟨k1, k2, k3, k4.imp (m2 _) id⟩
    · injection h9 with e1 e2
      obtain ⟨r, r1, r2⟩ := hr
      refine ⟨by omega, by omega, ⟨r, ?_⟩, Or.inl h8⟩
      rcases Nat.le_total a b with g | g
      · rw [e1, e2, Nat.min_eq_left g, Nat.max_eq_right g]; exact ⟨r1, r2⟩
      · rw [e1, e2, Nat.min_eq_right g, Nat.max_eq_left g]; exact ⟨r2, r1⟩
/-- A way up is gone: what it says is asked for, or written down. -/
theorem Know.mark (h : Know f s c ex) (hI : Inv f.np f.P s.ns s.S s.sg [] []) {m : Nat} {H : List Claim} (hH : Hist f m s.ns s.S [] H) {R y : Nat} (hR : R < s.ns) (hy : y < s.ns) (hu : (s.S R).up = (y : Int)) (hG : ¬ AbG c.ab R)
    {c2 : Ac} (h2 : (∀ q, c.se q = true → c2.se q = true) ∧ (∀ q ∈ c.wt, q ∈ c2.wt) ∧ c2.ab = c.ab ∧ (∀ q, c2.se q = true → c.se q = true ∨ (q.1 < s.ns ∧ q.2 < s.ns ∧ (∃ r, Anc s.S q.1 r ∧ Anc s.S q.2 r) ∧ q ∈ c2.wt)) ∧ (∀ q ∈ c2.wt, c2.se q = true))
    (h3 : ((s.S R).why = -1 ∧ c2.eq = c.eq ∧ Asked c2.se (f.P R).front.toNat (f.P y).front.toNat ∧ Asked c2.se (f.P R).arg.toNat (f.P y).arg.toNat) ∨ ((s.S R).why ≠ -1 ∧ c2.eq = c.eq ++ [(s.S R).why])) :
    Know f s { c2 with ab := upd c2.ab R (some y) } ex := by
  obtain ⟨m1, m2, m3, m4, m5⟩ := h2
  have hab : AbOk s.ns s.S (upd c2.ab R (some y)) := by rw [m3]; exact h.ab.mark hR hy hu
  have gm : ∀ k, AbG (upd c2.ab R (some y)) k ↔ k = R ∨ AbG c.ab k := fun k => by rw [m3]; exact abG_upd c.ab R y k
  have upT : (s.S R).up.toNat = y := by rw [hu]; simp
  have memq : ∀ z, z ∈ c2.eq ↔ z ∈ c.eq ∨ ((s.S R).why ≠ -1 ∧ z = (s.S R).why) := by
    intro z
    rcases h3 with ⟨e1, e2, _⟩ | ⟨e1, e2⟩
    · rw [e2]; simp [e1]
    · rw [e2]; simp [e1]
  refine ⟨hab, ⟨fun i hi hw => ?_, fun z hz => ?_, ?_, fun i hi hw => ?_⟩, fun x z hxz => ?_, m5, ?_⟩
  · show _ ∈ c2.eq
    rw [memq]
    rcases (gm i).1 hi with rfl | h9
    · exact Or.inr ⟨hw, rfl⟩
    · exact Or.inl (h.acc.eqs i h9 hw)
  · replace hz : z ∈ c2.eq := hz
    rw [memq] at hz
    rcases hz with hz | ⟨h9, rfl⟩
    · obtain ⟨i, k1, k2, k3⟩ := h.acc.mem z hz
      exact ⟨i, (gm i).2 (Or.inr k1), k2, k3⟩
    · exact ⟨R, (gm R).2 (Or.inl rfl), rfl, h9⟩
  · show c2.eq.Nodup
    rcases h3 with ⟨e1, e2, _⟩ | ⟨e1, e2⟩
    · rw [e2]; exact h.acc.nodup
    · rw [e2, List.nodup_append]
      refine ⟨h.acc.nodup, by simp, fun u hu' v hv e => ?_⟩
      simp at hv
      subst hv
      obtain ⟨i, k1, k2, k3⟩ := h.acc.mem u hu'
      obtain ⟨j, hj⟩ := Option.isSome_iff_exists.1 k1
      obtain ⟨i1, _, yi, i2, i3, _⟩ := h.ab.up i j hj
      have := why_inj hH hI.ups i1 hR i3 hy i2 hu (by rw [k2]; exact k3) (by rw [k2, e])
      subst this
      exact hG k1
  · rcases (gm i).1 hi with rfl | h9
    · rcases h3 with ⟨e1, e2, e3, e4⟩ | ⟨e1, _⟩
      · rw [upT]; exact ⟨e3, e4⟩
      · exact absurd hw e1
    · exact ⟨(h.acc.made i h9 hw).1.mono m1, (h.acc.made i h9 hw).2.mono m1⟩
  · rcases m4 (x, z) hxz with h9 | ⟨k1, k2, k3, k4⟩
    · obtain ⟨k1, k2, k3, k4⟩ := h.pairs x z h9
      refine ⟨k1, k2, k3, ?_⟩
      rcases k4 with k4 | k4 | k4
      · exact Or.inl (m2 _ k4)
      · exact Or.inr (Or.inl (meet_more hI hab (fun i hi => (gm i).2 (Or.inr hi)) k1 k4))
      · exact Or.inr (Or.inr k4)
    · exact ⟨k1, k2, k3, Or.inl k4⟩
  · show c2.eq.length ≤ gc s.ns (upd c2.ab R (some y))
    rw [m3, gc_mark hR hG]
    have := h.len
    rcases h3 with ⟨_, e2, _⟩ | ⟨_, e2⟩
    · rw [e2]; omega
    · rw [e2, List.length_append, List.length_singleton]; omega
/-- What two asks make. -/
theorem two_asks (c : Ac) {ns : Nat} {S : Nat → Spot} (hw : ∀ q ∈ c.wt, c.se q = true) {a b a' b' : Nat} (ha : a < ns) (hb : b < ns) (hr : ∃ r, Anc S a r ∧ Anc S b r) (ha' : a' < ns) (hb' : b' < ns) (hr' : ∃ r, Anc S a' r ∧ Anc S b' r) :
    ((∀ q, c.se q = true → (askC (askC c a b) a' b').se q = true) ∧ (∀ q ∈ c.wt, q ∈ (askC (askC c a b) a' b').wt) ∧ (askC (askC c a b) a' b').ab = c.ab ∧ (∀ q, (askC (askC c a b) a' b').se q = true → c.se q = true ∨ (q.1 < ns ∧ q.2 < ns ∧ (∃ r, Anc S q.1 r ∧ Anc S q.2 r) ∧ q ∈ (askC (askC c a b) a' b').wt)) ∧ (∀ q ∈ (askC (askC c a b) a' b').wt, (askC (askC c a b) a' b').se q = true)) ∧
    (askC (askC c a b) a' b').eq = c.eq ∧ Asked (askC (askC c a b) a' b').se a b ∧ Asked (askC (askC c a b) a' b').se a' b' ∧ (askC (askC c a b) a' b').wt.length ≤ c.wt.length + 2 := by
  obtain ⟨m1, m2, m3, m4, m5⟩ := askC_mono c a b
  obtain ⟨n1, n2, n3, n4, n5⟩ := askC_mono (askC c a b) a' b'
  have one : ∀ {a b : Nat} {q : Nat × Nat}, a < ns → b < ns → (∃ r, Anc S a r ∧ Anc S b r) → q = (min a b, max a b) → q.1 < ns ∧ q.2 < ns ∧ ∃ r, Anc S q.1 r ∧ Anc S q.2 r := by
    intro a b q ha hb hr e
    obtain ⟨r, r1, r2⟩ := hr
    subst e
    refine ⟨by show min a b < ns; omega, by show max a b < ns; omega, r, ?_⟩
    show Anc S (min a b) r ∧ Anc S (max a b) r
    rcases Nat.le_total a b with g | g
    · rw [Nat.min_eq_left g, Nat.max_eq_right g]; exact ⟨r1, r2⟩
    · rw [Nat.min_eq_right g, Nat.max_eq_left g]; exact ⟨r2, r1⟩
  refine ⟨⟨fun q h => n1 q (m1 q h), fun q h => n2 q (m2 q h), n3.trans m3, fun q h => ?_, askC_wts _ _ _ (askC_wts _ _ _ hw)⟩, n4.trans m4, (askC_asked c a b).mono n1, askC_asked _ _ _, by omega⟩
  rcases askC_new _ _ _ h with h9 | ⟨h9, h8⟩
  · rcases askC_new _ _ _ h9 with h7 | ⟨h7, h6⟩
    · exact Or.inl h7
    · obtain ⟨k1, k2, k3⟩ := one ha hb hr h7
      exact Or.inr ⟨k1, k2, k3, n2 _ h6⟩
  · obtain ⟨k1, k2, k3⟩ := one ha' hb' hr' h9
    exact Or.inr ⟨k1, k2, k3, h8⟩
/-- When nothing waits the equations suffice. -/
theorem Know.done (h : Know f s c (fun _ => False)) (hI : Inv f.np f.P s.ns s.S s.sg [] []) (hns : s.ns ≤ f.np) {m : Nat} {H : List Claim} (hH : Hist f m s.ns s.S [] H) (hw : c.wt = []) : Gone f s.S (AbG c.ab) c.eq ∧ ∀ x y, x < s.ns → Asked c.se x y → Meet s.S (AbG c.ab) x y := by
  have key : ∀ x y, x < s.ns → Asked c.se x y → Meet s.S (AbG c.ab) x y := by
    intro x y hx ha
    rcases ha with rfl | ha
    · obtain ⟨n, hn⟩ := hI.ups x hx
      obtain ⟨R, _, k1, k2⟩ := h.ab.first n x hx hn
      exact ⟨R, k1, k1, k2⟩
    · obtain ⟨k1, k2, k3, k4⟩ := h.pairs _ _ ha
      rcases k4 with k4 | k4 | k4
      · rw [hw] at k4; cases k4
      · rcases Nat.le_total x y with g | g
        · rw [Nat.min_eq_left g, Nat.max_eq_right g] at k4; exact k4
        · rw [Nat.min_eq_right g, Nat.max_eq_left g] at k4; exact k4.symm
      · exact k4.elim
  refine ⟨⟨h.acc.eqs, fun i hi hwh => ?_⟩, key⟩
  obtain ⟨j, hj⟩ := Option.isSome_iff_exists.1 hi
  obtain ⟨i1, _, y, i2, i3, _⟩ := h.ab.up i j hj
  obtain ⟨q1, q2⟩ := h.acc.made i hi hwh
  obtain ⟨e1, e2, _⟩ := edge_made hH i1 i3 i2 hwh
  have fi := hI.frontLt i1 e1
  exact ⟨key _ _ fi.1 q1, key _ _ fi.2 q2⟩
end
end Euf
end Go.Proofs.Ytmnpefiaelpkfac
/- The contract of climb; it proves no statement of the seat. -/
namespace Go.Proofs.Ytmnpefiaelpkfac
open Go.RowKit
set_option linter.unusedVariables false
namespace Euf
theorem uIntsE : Try.prog.underlying 31 = some (.slice 3) := by kernel_rfl
theorem iIntE : (Try.prog.info? 3).map (fun i => (i.zero, i.size, i.bytes)) = some (some (.int .i64 0), 1, 8) := by kernel_rfl
/-- All that climbing goes by. -/
structure KX (w : World) (p g : Nat) (x : Ax) (c : Ac) (d : Gd) (ex : Nat × Nat → Prop) : Prop where
  e : EX w p g x c d
  k : Know d.f d.s c ex
structure KI (d : Gd) (H : List Claim) : Prop where
  inv : Inv d.f.np d.f.P d.s.ns d.s.S d.s.sg [] []
  hist : Hist d.f d.m d.s.ns d.s.S [] H
def Fx2 (x x' : Ax) (n : Nat) : Prop := x'.bS = x.bS ∧ x'.bA = x.bA ∧ (x'.vW.ownBlock = x.vW.ownBlock ∨ ∃ q, x'.vW.ownBlock = some q ∧ n ≤ q) ∧ (x'.vE.ownBlock = x.vE.ownBlock ∨ ∃ q, x'.vE.ownBlock = some q ∧ n ≤ q)
theorem Fx2.refl (x : Ax) (n : Nat) : Fx2 x x n := ⟨rfl, rfl, Or.inl rfl, Or.inl rfl⟩
theorem Fx2.trans {x x' x'' : Ax} {n n' : Nat} (h : Fx2 x x' n) (k : Fx2 x' x'' n') (hn : n ≤ n') : Fx2 x x'' n := by
  refine ⟨k.1.trans h.1, k.2.1.trans h.2.1, ?_, ?_⟩
  · rcases k.2.2.1 with e | ⟨q, e1, e2⟩
    · rw [e]; exact h.2.2.1
    · exact Or.inr ⟨q, e1, by omega⟩
  · rcases k.2.2.2 with e | ⟨q, e1, e2⟩
    · rw [e]; exact h.2.2.2
    · exact Or.inr ⟨q, e1, by omega⟩
theorem Fx2.fy {x x' : Ax} {n p : Nat} (h : Fx2 x x' n) : ∀ b, Fy p x' b → Fy p x b ∨ n ≤ b := by
  rintro b (hb | hb | hb | hb | hb)
  · exact Or.inl (Or.inl hb)
  · exact Or.inl (Or.inr (Or.inl (hb.trans h.1)))
  · exact Or.inl (Or.inr (Or.inr (Or.inl (hb.trans h.2.1))))
  · rcases h.2.2.1 with e | ⟨q, e1, e2⟩
    · exact Or.inl (Or.inr (Or.inr (Or.inr (Or.inl (e.symm.trans hb)))))
    · right
      have := e1.symm.trans hb
      injection this with this
      omega
  · rcases h.2.2.2 with e | ⟨q, e1, e2⟩
    · exact Or.inl (Or.inr (Or.inr (Or.inr (Or.inr (e.symm.trans hb)))))
    · right
      have := e1.symm.trans hb
      injection this with this
      omega
/-- What a step of climbing asks for or writes down. -/
def StepC (s : Sx) (f : Fx) (R y : Nat) (c c2 : Ac) : Prop :=
  ((∀ q, c.se q = true → c2.se q = true) ∧ (∀ q ∈ c.wt, q ∈ c2.wt) ∧ c2.ab = c.ab ∧ (∀ q, c2.se q = true → c.se q = true ∨ (q.1 < s.ns ∧ q.2 < s.ns ∧ (∃ r, Anc s.S q.1 r ∧ Anc s.S q.2 r) ∧ q ∈ c2.wt)) ∧ (∀ q ∈ c2.wt, c2.se q = true)) ∧
  (((s.S R).why = -1 ∧ c2.eq = c.eq ∧ Asked c2.se (f.P R).front.toNat (f.P y).front.toNat ∧ Asked c2.se (f.P R).arg.toNat (f.P y).arg.toNat) ∨ ((s.S R).why ≠ -1 ∧ c2.eq = c.eq ++ [(s.S R).why])) ∧ c2.wt.length ≤ c.wt.length + 2
/-- What 'climb' leaves. -/
def ClimbEnd (p g : Nat) (x : Ax) (c : Ac) (d : Gd) (ex : Nat × Nat → Prop) (i M : Nat) (w w' : World) : Prop :=
  ∃ (x' : Ax) (c' : Ac), KX w' p g x' c' d ex ∧ Up d.s.S (AbG c'.ab) i M ∧ ¬ AbG c'.ab M ∧ (∀ k, AbG c.ab k → AbG c'.ab k) ∧ (∀ q, c.se q = true → c'.se q = true) ∧ mes d.s.ns c' ≤ mes d.s.ns c ∧ Mv (Fy p x) w w' ∧ Fx2 x x' w.heap.size

set_option maxRecDepth 20000 in
set_option maxHeartbeats 32000000 in
theorem climb_any (p g : Nat) (x : Ax) (c : Ac) (d : Gd) (ex : Nat × Nat → Prop) (H : List Claim) (i M : Nat) (w : World) (h : KX w p g x c d ex) (hK : KI d H) (hi : i < d.s.ns) (hM : M < d.s.ns) (hAM : Anc d.s.S i M) (hGM : ¬ AbG c.ab M) (hmes : mes d.s.ns c ≤ 100000) :
    Calls Try.prog 25 #[.pointer (some ⟨p, 0, none⟩), .int .i64 (i : Nat), .int .i64 (M : Nat)] w fun e w' => e = .returned (.tuple #[]) ∧ ClimbEnd p g x c d ex i M w w' := by
  have HK : Hid (KI d H) := hK
  have HX : Hid (KX w p g x c d ex) := h
  have HIM : Hid (Anc d.s.S i M ∧ ¬ AbG c.ab M ∧ mes d.s.ns c ≤ 100000) := ⟨hAM, hGM, hmes⟩
  obtain ⟨n0, hn0⟩ := hK.inv.ups i hi
  have HN0 : Hid (Ups d.s.S (i : Int) n0) := hn0
  have hN := h.e.aw.small
  obtain ⟨q0, -, -, -, -⟩ := h.e.aw.cells
  obtain ⟨-, -, -, -, c4, -, -, -, -, -⟩ := h.e.gw.cw.cells
  obtain ⟨gp, cp, hvp, hgp, -⟩ := h.e.gw.cw.part (i := i) (Nat.lt_of_lt_of_le hi h.e.gw.cw.small.2)
  rw [hvp] at c4
  have HVP : Hid (d.x.vP = .slice (some ⟨gp, 0, none⟩) d.f.np cp) := hvp
  have hpl := h.e.aw.lt
  have hgl := h.e.gw.cw.lt
  clear h hK hAM hGM hmes hn0 hvp
  go_enter Try.func25, Try.ntmps25
  go_wp2_with fail
  refine (top_any d.s.S p g x c d.s.ns i n0 w HX.out.e.aw HX.out.k.ab hi HN0.out).mono ?_
  rintro e w1 ⟨R0, rfl, hT⟩
  obtain ⟨t1, t2, t3, ab1, hE1, t5, t6, hM1⟩ := hT.ex HX.out.e
  obtain ⟨nR, HNR⟩ : ∃ nR, Hid (Ups d.s.S (R0 : Int) nR) := by
    obtain ⟨m, hm, _⟩ := t2.short HN0.out
    exact ⟨m, hm⟩
  have HT : Hid (R0 < d.s.ns ∧ Up d.s.S (AbG ab1) i R0 ∧ ¬ AbG ab1 R0 ∧ Anc d.s.S R0 M ∧ ¬ AbG ab1 M ∧ (∀ k, AbG c.ab k → AbG ab1 k) ∧ KX w1 p g x { c with ab := ab1 } d ex ∧ mes d.s.ns { c with ab := ab1 } ≤ mes d.s.ns c ∧ Mv (Fy p x) w w1) := by
    refine ⟨t1, t2.mono (fun k hk => (t6 k).2 hk), fun h9 => t3 ((t6 R0).1 h9), first_below ⟨n0, HN0.out⟩ HIM.out.1 HIM.out.2.1 t2 t3, fun h9 => HIM.out.2.1 ((t6 M).1 h9), fun k hk => (t6 k).2 hk, ⟨hE1, HX.out.k.table t5 t6⟩, ?_, ⟨hM1.os, hM1.tape, hM1.output, hM1.size, fun b hb hn => hM1.other b hb (fun e => hn (Or.inr (Or.inr (Or.inl e))))⟩⟩
    show c.wt.length + 2 * (d.s.ns - gc d.s.ns ab1) ≤ _
    rw [gc_congr t6]; exact Nat.le_refl _
  clear hT t1 t2 t3 t5 t6 hM1 hE1 hpl hgl q0 c4 hgp
  go_wp2
  go_loopg [1] nR (fun gk v1 wr => ∃ (R : Nat) (x' : Ax) (c' : Ac), v1 = .int .i64 (R : Nat) ∧ Hid (Ups d.s.S (R : Int) gk ∧ R < d.s.ns ∧ Up d.s.S (AbG c'.ab) i R ∧ ¬ AbG c'.ab R ∧ Anc d.s.S R M ∧ ¬ AbG c'.ab M ∧ (∀ k, AbG c.ab k → AbG c'.ab k) ∧ (∀ q, c.se q = true → c'.se q = true) ∧ KX wr p g x' c' d ex ∧ mes d.s.ns c' ≤ mes d.s.ns c ∧ Mv (Fy p x) w wr ∧ Fx2 x x' w.heap.size))
  case atStart =>
    obtain ⟨t1, t2, t3, t4, t5, t6, t7, t8, t9⟩ := HT.out
    exact ⟨R0, x, { c with ab := ab1 }, rfl, HNR.out, t1, t2, t3, t4, t5, t6, fun q hq => hq, t7, t8, t9, Fx2.refl _ _⟩
  case round =>
    clear HT HNR
    rename World => wl
    obtain ⟨R, x', c', rfl, HR⟩ := hrel
    by_cases hRM : R = M
    · subst hRM
      go_wp2
      go_end0
      obtain ⟨r1, r2, r3, r4, r5, r6, r7, r8, r9, r10, r11, r12⟩ := HR.out
      exact ⟨rfl, x', c', r9, r3, r4, r7, r8, r10, r11, r12⟩
    · have hRI : ¬ ((R : Int) = (M : Int)) := by omega
      obtain ⟨y, HY⟩ : ∃ y : Nat, Hid ((d.s.S R).up = (y : Int) ∧ y < d.s.ns ∧ Anc d.s.S y M) := by
        have h9 := HR.out.2.2.2.2.1
        cases h9 with
        | refl => exact absurd rfl hRM
        | @step _ y _ _ k2 k3 =>
          have h8 := HK.out.inv.upc R HR.out.2.1 (by omega)
          rw [k2] at h8
          exact ⟨y, k2, by simpa using h8.2.1, k3⟩
      clear hRM
      have hRn := HR.out.2.1
      have hyn := HY.out.2.1
      have hKX := HR.out.2.2.2.2.2.2.2.2.1
      obtain ⟨q0, -, -, -, -⟩ := hKX.e.aw.cells
      obtain ⟨gs, cap, hv, hc1, hc2⟩ := hKX.e.gw.cw.spotsAt hRn
      obtain ⟨-, -, -, -, -, -, -, c7, -, -⟩ := hKX.e.gw.cw.cells
      rw [hv] at c7
      obtain ⟨f0, f1, f2, f3, f4, f5, f6⟩ := hKX.e.gw.cw.spot hv hRn
      rw [HY.out.1] at f2
      obtain ⟨au, ca, hau, -, -, -, -⟩ := (hKX.e.gw.cw.uses R hRn).shape
      rw [hau] at f6
      have hpl := hKX.e.aw.lt
      have hgl := hKX.e.gw.cw.lt
      have hgs := hKX.e.gw.cw.ltS hv
      have hRnI : (R : Int) < (d.s.ns : Int) := by omega
      obtain ⟨wy, hwy⟩ : ∃ wy, wy = (d.s.S R).why := ⟨_, rfl⟩
      rw [← hwy] at f3
      have HWY : Hid ((d.s.S R).why = wy) := hwy.symm
      have HKX : Hid (KX wl p g x' c' d ex) := hKX
      obtain ⟨V, hV⟩ : ∃ V, V = wl.alloc (.cells #[.int .i64 ((d.s.S R).cls : Nat), .int .i64 ((d.s.S R).next : Nat), .int .i64 (y : Int), .int .i64 wy, .int .i64 ((d.s.S R).size : Nat), .int .i64 (d.s.S R).least, .slice au (d.s.S R).uses.length ca] 86 (0, 0)) := ⟨_, rfl⟩
      have hbV : Below wl.heap.size wl V := by rw [hV]; exact (Below.refl _ _).alloc (Nat.le_refl _) _
      have kV := heap_alloc_new wl (.cells #[.int .i64 ((d.s.S R).cls : Nat), .int .i64 ((d.s.S R).next : Nat), .int .i64 (y : Int), .int .i64 wy, .int .i64 ((d.s.S R).size : Nat), .int .i64 (d.s.S R).least, .slice au (d.s.S R).uses.length ca] 86 (0, 0))
      rw [← hV] at kV
      have v2 : V.cell? ⟨wl.heap.size, 2, none⟩ = some (.int .i64 (y : Nat)) := cell_of_row _ wl.heap.size 2 _ 86 (0, 0) kV
      have v3 : V.cell? ⟨wl.heap.size, 3, none⟩ = some (.int .i64 wy) := cell_of_row _ wl.heap.size 3 _ 86 (0, 0) kV
      have hvl : wl.heap.size < V.heap.size := (Array.getElem?_eq_some_iff.1 kV).1
      have HV : Hid (KX V p g x' c' d ex) := ⟨HKX.out.e.below hbV, HKX.out.k⟩
      have HVC : Hid (V.cell? ⟨wl.heap.size, 2, none⟩ = some (.int .i64 (y : Nat)) ∧ V.cell? ⟨wl.heap.size, 3, none⟩ = some (.int .i64 wy) ∧ wl.heap.size < V.heap.size ∧ Below wl.heap.size wl V) := ⟨v2, v3, hvl, hbV⟩
      clear hKX hv hau hwy kV v2 v3
      go_upto_if 37 with fail
      rw [← hV]
      clear hV q0 c7 f0 f1 f2 f3 f4 f5 f6 hpl hgl hgs hbV hvl
      go_cut [1, 7] (fun v1 v7 wx => v1 = .int .i64 (R : Nat) ∧ v7 = .pointer (some ⟨wl.heap.size, 0, none⟩) ∧ ∃ (x2 : Ax) (c2 : Ac), Hid (EX wx p g x2 c2 d ∧ StepC d.s d.f R y c' c2 ∧ Mv (Fy p x') V wx ∧ Fx2 x' x2 V.heap.size))
      case first =>
        by_cases hw1 : wy = -1
        · subst hw1
          obtain ⟨M1, M2, M3, M4⟩ := edge_made HK.out.hist hRn hyn HY.out.1 HWY.out
          obtain ⟨o1, o2, o3, o4⟩ := HK.out.inv.parts.made (Nat.lt_of_lt_of_le hRn HK.out.inv.le) M1
          obtain ⟨o5, o6, o7, o8⟩ := HK.out.inv.parts.made (Nat.lt_of_lt_of_le hyn HK.out.inv.le) M2
          obtain ⟨fr, hfr⟩ : ∃ n : Nat, (d.f.P R).front = (n : Int) := ⟨_, (Int.toNat_of_nonneg o1).symm⟩
          obtain ⟨ar, har⟩ : ∃ n : Nat, (d.f.P R).arg = (n : Int) := ⟨_, (Int.toNat_of_nonneg o3).symm⟩
          obtain ⟨fy, hfy⟩ : ∃ n : Nat, (d.f.P y).front = (n : Int) := ⟨_, (Int.toNat_of_nonneg o5).symm⟩
          obtain ⟨ay, hay⟩ : ∃ n : Nat, (d.f.P y).arg = (n : Int) := ⟨_, (Int.toNat_of_nonneg o7).symm⟩
          rw [hfr, hfy, Int.toNat_natCast, Int.toNat_natCast] at M3
          rw [har, hay, Int.toNat_natCast, Int.toNat_natCast] at M4
          have hfl := HK.out.inv.frontLt hRn M1
          have hyl := HK.out.inv.frontLt hyn M2
          rw [hfr, har, Int.toNat_natCast, Int.toNat_natCast] at hfl
          rw [hfy, hay, Int.toNat_natCast, Int.toNat_natCast] at hyl
          have HPQ : Hid ((d.f.P R).front = (fr : Int) ∧ (d.f.P R).arg = (ar : Int) ∧ (d.f.P y).front = (fy : Int) ∧ (d.f.P y).arg = (ay : Int) ∧ (∃ r, Anc d.s.S fr r ∧ Anc d.s.S fy r) ∧ (∃ r, Anc d.s.S ar r ∧ Anc d.s.S ay r)) := ⟨hfr, har, hfy, hay, M3, M4⟩
          have hRp : (R : Int) < (d.f.np : Int) := by have := HK.out.inv.le; omega
          have hyp : (y : Int) < (d.f.np : Int) := by have := HK.out.inv.le; omega
          have HPM : Hid (∀ w9 x9 c9, EX w9 p g x9 c9 d → w9.cell? ⟨gp, R * 3, none⟩ = some (.int .i64 (fr : Nat)) ∧ w9.cell? ⟨gp, R * 3 + 1, none⟩ = some (.int .i64 (ar : Nat)) ∧ w9.cell? ⟨gp, y * 3, none⟩ = some (.int .i64 (fy : Nat)) ∧ w9.cell? ⟨gp, y * 3 + 1, none⟩ = some (.int .i64 (ay : Nat))) := by
            intro w9 x9 c9 h9
            obtain ⟨gp1, cp1, e1, -, e2, e3, -⟩ := h9.gw.cw.part (i := R) (by omega)
            obtain ⟨gp2, cp2, e4, -, e5, e6, -⟩ := h9.gw.cw.part (i := y) (by omega)
            rw [HVP.out] at e1 e4
            injection e1 with e1 _ _
            injection e1 with e1
            injection e1 with e1 _ _
            injection e4 with e4 _ _
            injection e4 with e4
            injection e4 with e4 _ _
            subst e1 e4
            rw [HPQ.out.1] at e2
            rw [HPQ.out.2.1] at e3
            rw [HPQ.out.2.2.1] at e5
            rw [HPQ.out.2.2.2.1] at e6
            exact ⟨e2, e3, e5, e6⟩
          have hfrn := hfl.1
          have harn := hfl.2
          have hfyn := hyl.1
          have hayn := hyl.2
          have HWL : Hid (c'.wt.length ≤ 100000) := by
            have h9 := HR.out.2.2.2.2.2.2.2.2.2.1
            have h8 := HIM.out.2.2
            have h7 : mes d.s.ns c' = c'.wt.length + 2 * (d.s.ns - gc d.s.ns c'.ab) := rfl
            show _ ≤ _
            omega
          have HE : Hid (EX V p g x' c' d) := HV.out.e
          have HS2 : Hid (V.cell? ⟨wl.heap.size, 2, none⟩ = some (.int .i64 (y : Nat)) ∧ wl.heap.size < V.heap.size) := ⟨HVC.out.1, HVC.out.2.2.1⟩
          clear o1 o2 o3 o4 o5 o6 o7 o8 hfr har hfy hay hfl hyl M1 M2 M3 M4
          go_wp2
          refine wp_region_E (by kernel_rfl) [some 38, some 39, some 40, some 41, some 42, some 43, some 44, some 45, some 46, some 47, some 48, some 49, some 50] [none, none, none, none, none, none, none, none, none, none, none, none, none, none, none, none, none, none, none, none, none, none, none, none, none, none, none, none, none, none, none, none, none, none, none, none, none, none, some 38, some 39, some 40, some 41, some 42, some 43, some 44, some 45, some 46, some 47, some 48, some 49, some 50] (fun U => by kernel_rfl) [fun u => u = (.pointer (some ⟨p, 0, none⟩)), fun u => u = (.slice (some ⟨gp, 0, none⟩) d.f.np cp), fun u => u = (.int .i64 (R : Nat)), fun u => u = (.pointer (some ⟨gp, R * 3, none⟩)), fun u => u = (.pointer (some ⟨gp, R * 3, none⟩)), fun u => u = (.int .i64 (fr : Nat)), fun u => u = (.slice (some ⟨gp, 0, none⟩) d.f.np cp), fun u => u = (.pointer (some ⟨wl.heap.size, 2, none⟩)), fun u => u = (.int .i64 (y : Nat)), fun u => u = (.pointer (some ⟨gp, y * 3, none⟩)), fun u => u = (.pointer (some ⟨gp, y * 3, none⟩)), fun u => u = (.int .i64 (fy : Nat)), fun u => u = (.tuple #[])] (fun L U wr => (L 12 = false → Below V.heap.size V wr) ∧ (L 12 = true → (L 0 = true ∧ L 1 = true ∧ L 2 = true ∧ L 3 = true ∧ L 4 = true ∧ L 5 = true ∧ L 6 = true ∧ L 7 = true ∧ L 8 = true ∧ L 9 = true ∧ L 10 = true ∧ L 11 = true) ∧ AskEnd p g (x') (c') d fr fy V wr)) (by kernel_rfl) (by decide) (by kernel_rfl) (by kernel_rfl) ?_ ?_ ?_
          · exact fun U => ⟨fun _ => (Below.refl _ _).drew, (fun h => by cases h)⟩
          · refine StepsE.run rfl ?_ ?_
            · intro L U wr hC hP hlk hcl haf A K hFm hK
              simp [Aft, Region.binds] at haf
              have e0 : A.tmps[0]? = some (.pointer (some ⟨p, 0, none⟩)) := (hFm.old 0 (by decide)).trans (by kernel_rfl)
              have HC : Hid _ := hC
              clear hC
              refine ⟨?_⟩
              go_simp
              refine hK _ _ rfl ?_
              obtain ⟨c0, cS⟩ := HC.out
              refine ⟨fun h => c0 (by simpa using h), fun h => ?_⟩
              have h9 := cS (by simpa using h)
              exact ⟨by simp [h9.1], h9.2⟩
            refine StepsE.run rfl ?_ ?_
            · intro L U wr hC hP hlk hcl haf A K hFm hK
              simp [Aft, Region.binds] at haf
              have e6 : A.tmps[6]? = some (.slice (some ⟨gp, 0, none⟩) d.f.np cp) := (hFm.old 6 (by decide)).trans (by kernel_rfl)
              have HC : Hid _ := hC
              clear hC
              refine ⟨?_⟩
              go_simp
              refine hK _ _ rfl ?_
              obtain ⟨c0, cS⟩ := HC.out
              refine ⟨fun h => c0 (by simpa using h), fun h => ?_⟩
              have h9 := cS (by simpa using h)
              exact ⟨by simp [h9.1], h9.2⟩
            refine StepsE.run rfl ?_ ?_
            · intro L U wr hC hP hlk hcl haf A K hFm hK
              simp [Aft, Region.binds] at haf
              have e1 : A.tmps[1]? = some (.int .i64 (R : Nat)) := (hFm.old 1 (by decide)).trans (by kernel_rfl)
              have HC : Hid _ := hC
              clear hC
              refine ⟨?_⟩
              go_simp
              refine hK _ _ rfl ?_
              obtain ⟨c0, cS⟩ := HC.out
              refine ⟨fun h => c0 (by simpa using h), fun h => ?_⟩
              have h9 := cS (by simpa using h)
              exact ⟨by simp [h9.1], h9.2⟩
            refine StepsE.run rfl ?_ ?_
            · intro L U wr hC hP hlk hcl haf A K hFm hK
              simp [Aft, Region.binds] at haf
              have g1 : U 39 = (.slice (some ⟨gp, 0, none⟩) d.f.np cp) := hP 1 39 (by simp [haf]) rfl
              have e39 : A.tmps[39]? = some (.slice (some ⟨gp, 0, none⟩) d.f.np cp) := hFm.is 1 39 rfl g1
              have g2 : U 40 = (.int .i64 (R : Nat)) := hP 2 40 (by simp [haf]) rfl
              have e40 : A.tmps[40]? = some (.int .i64 (R : Nat)) := hFm.is 2 40 rfl g2
              have HC : Hid _ := hC
              clear hC
              refine ⟨?_⟩
              go_simp
              refine hK _ _ rfl ?_
              obtain ⟨c0, cS⟩ := HC.out
              refine ⟨fun h => c0 (by simpa using h), fun h => ?_⟩
              have h9 := cS (by simpa using h)
              exact ⟨by simp [h9.1], h9.2⟩
            refine StepsE.run rfl ?_ ?_
            · intro L U wr hC hP hlk hcl haf A K hFm hK
              simp [Aft, Region.binds] at haf
              have g3 : U 41 = (.pointer (some ⟨gp, R * 3, none⟩)) := hP 3 41 (by simp [haf]) rfl
              have e41 : A.tmps[41]? = some (.pointer (some ⟨gp, R * 3, none⟩)) := hFm.is 3 41 rfl g3
              have HC : Hid _ := hC
              clear hC
              refine ⟨?_⟩
              go_simp
              refine hK _ _ rfl ?_
              obtain ⟨c0, cS⟩ := HC.out
              refine ⟨fun h => c0 (by simpa using h), fun h => ?_⟩
              have h9 := cS (by simpa using h)
              exact ⟨by simp [h9.1], h9.2⟩
            refine StepsE.run rfl ?_ ?_
            · intro L U wr hC hP hlk hcl haf A K hFm hK
              simp [Aft, Region.binds] at haf
              have g4 : U 42 = (.pointer (some ⟨gp, R * 3, none⟩)) := hP 4 42 (by simp [haf]) rfl
              have e42 : A.tmps[42]? = some (.pointer (some ⟨gp, R * 3, none⟩)) := hFm.is 4 42 rfl g4
              have n12 : L 12 = false := by cases h : L 12 with | false => rfl | true => have h9 := hcl 12 _ rfl h; simp [Aft, Region.binds, hlk] at h9
              have hb8 := hC.1 n12
              obtain ⟨m1, m2, m3, m4⟩ := HPM.out wr _ _ (HE.out.below hb8)
              have m5 := (hb8.cell (p := ⟨wl.heap.size, 2, none⟩) HS2.out.2).trans HS2.out.1
              clear hb8 n12
              have HC : Hid _ := hC
              clear hC
              refine ⟨?_⟩
              go_simp
              refine hK _ _ rfl ?_
              obtain ⟨c0, cS⟩ := HC.out
              refine ⟨fun h => c0 (by simpa using h), fun h => ?_⟩
              have h9 := cS (by simpa using h)
              exact ⟨by simp [h9.1], h9.2⟩
            refine StepsE.run rfl ?_ ?_
            · intro L U wr hC hP hlk hcl haf A K hFm hK
              simp [Aft, Region.binds] at haf
              have e6 : A.tmps[6]? = some (.slice (some ⟨gp, 0, none⟩) d.f.np cp) := (hFm.old 6 (by decide)).trans (by kernel_rfl)
              have HC : Hid _ := hC
              clear hC
              refine ⟨?_⟩
              go_simp
              refine hK _ _ rfl ?_
              obtain ⟨c0, cS⟩ := HC.out
              refine ⟨fun h => c0 (by simpa using h), fun h => ?_⟩
              have h9 := cS (by simpa using h)
              exact ⟨by simp [h9.1], h9.2⟩
            refine StepsE.run rfl ?_ ?_
            · intro L U wr hC hP hlk hcl haf A K hFm hK
              simp [Aft, Region.binds] at haf
              have e7 : A.tmps[7]? = some (.pointer (some ⟨wl.heap.size, 0, none⟩)) := (hFm.old 7 (by decide)).trans (by kernel_rfl)
              have HC : Hid _ := hC
              clear hC
              refine ⟨?_⟩
              go_simp
              refine hK _ _ rfl ?_
              obtain ⟨c0, cS⟩ := HC.out
              refine ⟨fun h => c0 (by simpa using h), fun h => ?_⟩
              have h9 := cS (by simpa using h)
              exact ⟨by simp [h9.1], h9.2⟩
            refine StepsE.run rfl ?_ ?_
            · intro L U wr hC hP hlk hcl haf A K hFm hK
              simp [Aft, Region.binds] at haf
              have g7 : U 45 = (.pointer (some ⟨wl.heap.size, 2, none⟩)) := hP 7 45 (by simp [haf]) rfl
              have e45 : A.tmps[45]? = some (.pointer (some ⟨wl.heap.size, 2, none⟩)) := hFm.is 7 45 rfl g7
              have n9 : L 9 = false := by cases h : L 9 with | false => rfl | true => have h9 := hcl 9 _ rfl h; simp [Aft, Region.binds, hlk] at h9
              have n10 : L 10 = false := by cases h : L 10 with | false => rfl | true => have h9 := hcl 10 _ rfl h; simp [Aft, Region.binds, n9] at h9
              have n11 : L 11 = false := by cases h : L 11 with | false => rfl | true => have h9 := hcl 11 _ rfl h; simp [Aft, Region.binds, n10] at h9
              have n12 : L 12 = false := by cases h : L 12 with | false => rfl | true => have h9 := hcl 12 _ rfl h; simp [Aft, Region.binds, n11] at h9
              have hb8 := hC.1 n12
              obtain ⟨m1, m2, m3, m4⟩ := HPM.out wr _ _ (HE.out.below hb8)
              have m5 := (hb8.cell (p := ⟨wl.heap.size, 2, none⟩) HS2.out.2).trans HS2.out.1
              clear hb8 n9 n10 n11 n12
              have HC : Hid _ := hC
              clear hC
              refine ⟨?_⟩
              go_simp
              refine hK _ _ rfl ?_
              obtain ⟨c0, cS⟩ := HC.out
              refine ⟨fun h => c0 (by simpa using h), fun h => ?_⟩
              have h9 := cS (by simpa using h)
              exact ⟨by simp [h9.1], h9.2⟩
            refine StepsE.run rfl ?_ ?_
            · intro L U wr hC hP hlk hcl haf A K hFm hK
              simp [Aft, Region.binds] at haf
              have g6 : U 44 = (.slice (some ⟨gp, 0, none⟩) d.f.np cp) := hP 6 44 (by simp [haf]) rfl
              have e44 : A.tmps[44]? = some (.slice (some ⟨gp, 0, none⟩) d.f.np cp) := hFm.is 6 44 rfl g6
              have g8 : U 46 = (.int .i64 (y : Nat)) := hP 8 46 (by simp [haf]) rfl
              have e46 : A.tmps[46]? = some (.int .i64 (y : Nat)) := hFm.is 8 46 rfl g8
              have HC : Hid _ := hC
              clear hC
              refine ⟨?_⟩
              go_simp
              refine hK _ _ rfl ?_
              obtain ⟨c0, cS⟩ := HC.out
              refine ⟨fun h => c0 (by simpa using h), fun h => ?_⟩
              have h9 := cS (by simpa using h)
              exact ⟨by simp [h9.1], h9.2⟩
            refine StepsE.run rfl ?_ ?_
            · intro L U wr hC hP hlk hcl haf A K hFm hK
              simp [Aft, Region.binds] at haf
              have g9 : U 47 = (.pointer (some ⟨gp, y * 3, none⟩)) := hP 9 47 (by simp [haf]) rfl
              have e47 : A.tmps[47]? = some (.pointer (some ⟨gp, y * 3, none⟩)) := hFm.is 9 47 rfl g9
              have HC : Hid _ := hC
              clear hC
              refine ⟨?_⟩
              go_simp
              refine hK _ _ rfl ?_
              obtain ⟨c0, cS⟩ := HC.out
              refine ⟨fun h => c0 (by simpa using h), fun h => ?_⟩
              have h9 := cS (by simpa using h)
              exact ⟨by simp [h9.1], h9.2⟩
            refine StepsE.run rfl ?_ ?_
            · intro L U wr hC hP hlk hcl haf A K hFm hK
              simp [Aft, Region.binds] at haf
              have g10 : U 48 = (.pointer (some ⟨gp, y * 3, none⟩)) := hP 10 48 (by simp [haf]) rfl
              have e48 : A.tmps[48]? = some (.pointer (some ⟨gp, y * 3, none⟩)) := hFm.is 10 48 rfl g10
              have n12 : L 12 = false := by cases h : L 12 with | false => rfl | true => have h9 := hcl 12 _ rfl h; simp [Aft, Region.binds, hlk] at h9
              have hb8 := hC.1 n12
              obtain ⟨m1, m2, m3, m4⟩ := HPM.out wr _ _ (HE.out.below hb8)
              have m5 := (hb8.cell (p := ⟨wl.heap.size, 2, none⟩) HS2.out.2).trans HS2.out.1
              clear hb8 n12
              have HC : Hid _ := hC
              clear hC
              refine ⟨?_⟩
              go_simp
              refine hK _ _ rfl ?_
              obtain ⟨c0, cS⟩ := HC.out
              refine ⟨fun h => c0 (by simpa using h), fun h => ?_⟩
              have h9 := cS (by simpa using h)
              exact ⟨by simp [h9.1], h9.2⟩
            refine StepsE.run rfl ?_ StepsE.nil
            · intro L U wr hC hP hlk hcl haf A K hFm hK
              simp [Aft, Region.binds] at haf
              have g0 : U 38 = (.pointer (some ⟨p, 0, none⟩)) := hP 0 38 (by simp [haf]) rfl
              have e38 : A.tmps[38]? = some (.pointer (some ⟨p, 0, none⟩)) := hFm.is 0 38 rfl g0
              have g5 : U 43 = (.int .i64 (fr : Nat)) := hP 5 43 (by simp [haf]) rfl
              have e43 : A.tmps[43]? = some (.int .i64 (fr : Nat)) := hFm.is 5 43 rfl g5
              have g11 : U 49 = (.int .i64 (fy : Nat)) := hP 11 49 (by simp [haf]) rfl
              have e49 : A.tmps[49]? = some (.int .i64 (fy : Nat)) := hFm.is 11 49 rfl g11
              have l0 : L 0 = true := by simp [haf]
              have l5 : L 5 = true := by simp [haf]
              have l11 : L 11 = true := by simp [haf]
              have a5 := hcl 5 _ rfl l5
              simp [Aft, Region.binds] at a5
              have l4 : L 4 = true := by simp [a5]
              have a11 := hcl 11 _ rfl l11
              simp [Aft, Region.binds] at a11
              have l10 : L 10 = true := by simp [a11]
              have a4 := hcl 4 _ rfl l4
              simp [Aft, Region.binds] at a4
              have l3 : L 3 = true := by simp [a4]
              have a10 := hcl 10 _ rfl l10
              simp [Aft, Region.binds] at a10
              have l9 : L 9 = true := by simp [a10]
              have a3 := hcl 3 _ rfl l3
              simp [Aft, Region.binds] at a3
              have l1 : L 1 = true := by simp [a3]
              have l2 : L 2 = true := by simp [a3]
              have a9 := hcl 9 _ rfl l9
              simp [Aft, Region.binds] at a9
              have l6 : L 6 = true := by simp [a9]
              have l8 : L 8 = true := by simp [a9]
              have a8 := hcl 8 _ rfl l8
              simp [Aft, Region.binds] at a8
              have l7 : L 7 = true := by simp [a8]
              refine ⟨?_⟩
              have HCr : Hid _ := HE.out.below (hC.1 hlk)
              have HB9 : Hid _ := hC.1 hlk
              have HL : Hid (L 0 = true ∧ L 1 = true ∧ L 2 = true ∧ L 3 = true ∧ L 4 = true ∧ L 5 = true ∧ L 6 = true ∧ L 7 = true ∧ L 8 = true ∧ L 9 = true ∧ L 10 = true ∧ L 11 = true) := ⟨l0, l1, l2, l3, l4, l5, l6, l7, l8, l9, l10, l11⟩
              clear hC
              have hgl := HCr.out.aw.lt
              go_simp
              refine (ask_any p g (x') (c') d fr fy wr HCr.out hfrn hfyn (by have := HWL.out; omega)).mono ?_
              rintro e w1 ⟨rfl, v9, a1, a2, a3⟩
              go_simp
              refine hK _ _ rfl ⟨fun h => by simp at h, fun _ => ⟨by simp [HL.out], v9, a1, (Mv.below HB9.out).trans a2 (fun q hq => Or.inl hq), ?_⟩⟩
              rcases a3 with h9 | ⟨q, h8, h9⟩
              · exact Or.inl h9
              · exact Or.inr ⟨q, h8, Nat.le_trans HB9.out.size h9⟩
          intro L U6 V6 hall hC hP
          have hE6 := (hC.2 (hall 12 (by decide))).2
          clear hC hP hall
          obtain ⟨v6, a1, a2, a3⟩ := hE6
          have HX6 : Hid (Mv (Fy p x') V V6 ∧ (v6.ownBlock = x'.vW.ownBlock ∨ ∃ q, v6.ownBlock = some q ∧ V.heap.size ≤ q)) := ⟨a2, a3⟩
          have HS6 : Hid (V6.cell? ⟨wl.heap.size, 2, none⟩ = some (.int .i64 (y : Nat)) ∧ wl.heap.size < V6.heap.size) := ⟨(World.cell?_of_block (a := ⟨wl.heap.size, 2, none⟩) (a2.other _ HS2.out.2 (fun h9 => absurd (HKX.out.e.aw.fyLt h9) (Nat.lt_irrefl _)))).trans HS2.out.1, Nat.lt_of_lt_of_le HS2.out.2 a2.size⟩
          have HE6 : Hid (EX V6 p g { x' with vW := v6 } (askC c' fr fy) d) := a1
          clear a1 a2 a3
          simp only [setM_some, setM_none, setM_nil]
          go_wp2
          refine wp_region_E (by kernel_rfl) [some 51, some 52, some 53, some 54, some 55, some 56, some 57, some 58, some 59, some 60, some 61, some 62, some 63] [none, none, none, none, none, none, none, none, none, none, none, none, none, none, none, none, none, none, none, none, none, none, none, none, none, none, none, none, none, none, none, none, none, none, none, none, none, none, none, none, none, none, none, none, none, none, none, none, none, none, none, some 51, some 52, some 53, some 54, some 55, some 56, some 57, some 58, some 59, some 60, some 61, some 62, some 63] (fun U => by kernel_rfl) [fun u => u = (.pointer (some ⟨p, 0, none⟩)), fun u => u = (.slice (some ⟨gp, 0, none⟩) d.f.np cp), fun u => u = (.int .i64 (R : Nat)), fun u => u = (.pointer (some ⟨gp, R * 3, none⟩)), fun u => u = (.pointer (some ⟨gp, R * 3 + 1, none⟩)), fun u => u = (.int .i64 (ar : Nat)), fun u => u = (.slice (some ⟨gp, 0, none⟩) d.f.np cp), fun u => u = (.pointer (some ⟨wl.heap.size, 2, none⟩)), fun u => u = (.int .i64 (y : Nat)), fun u => u = (.pointer (some ⟨gp, y * 3, none⟩)), fun u => u = (.pointer (some ⟨gp, y * 3 + 1, none⟩)), fun u => u = (.int .i64 (ay : Nat)), fun u => u = (.tuple #[])] (fun L U wr => (L 12 = false → Below V6.heap.size V6 wr) ∧ (L 12 = true → (L 0 = true ∧ L 1 = true ∧ L 2 = true ∧ L 3 = true ∧ L 4 = true ∧ L 5 = true ∧ L 6 = true ∧ L 7 = true ∧ L 8 = true ∧ L 9 = true ∧ L 10 = true ∧ L 11 = true) ∧ AskEnd p g ({ x' with vW := v6 }) (askC c' fr fy) d ar ay V6 wr)) (by kernel_rfl) (by decide) (by kernel_rfl) (by kernel_rfl) ?_ ?_ ?_
          · exact fun U => ⟨fun _ => (Below.refl _ _).drew, (fun h => by cases h)⟩
          · refine StepsE.run rfl ?_ ?_
            · intro L U wr hC hP hlk hcl haf A K hFm hK
              simp [Aft, Region.binds] at haf
              have e0 : A.tmps[0]? = some (.pointer (some ⟨p, 0, none⟩)) := (hFm.old 0 (by decide)).trans (by kernel_rfl)
              have HC : Hid _ := hC
              clear hC
              refine ⟨?_⟩
              go_simp
              refine hK _ _ rfl ?_
              obtain ⟨c0, cS⟩ := HC.out
              refine ⟨fun h => c0 (by simpa using h), fun h => ?_⟩
              have h9 := cS (by simpa using h)
              exact ⟨by simp [h9.1], h9.2⟩
            refine StepsE.run rfl ?_ ?_
            · intro L U wr hC hP hlk hcl haf A K hFm hK
              simp [Aft, Region.binds] at haf
              have e6 : A.tmps[6]? = some (.slice (some ⟨gp, 0, none⟩) d.f.np cp) := (hFm.old 6 (by decide)).trans (by kernel_rfl)
              have HC : Hid _ := hC
              clear hC
              refine ⟨?_⟩
              go_simp
              refine hK _ _ rfl ?_
              obtain ⟨c0, cS⟩ := HC.out
              refine ⟨fun h => c0 (by simpa using h), fun h => ?_⟩
              have h9 := cS (by simpa using h)
              exact ⟨by simp [h9.1], h9.2⟩
            refine StepsE.run rfl ?_ ?_
            · intro L U wr hC hP hlk hcl haf A K hFm hK
              simp [Aft, Region.binds] at haf
              have e1 : A.tmps[1]? = some (.int .i64 (R : Nat)) := (hFm.old 1 (by decide)).trans (by kernel_rfl)
              have HC : Hid _ := hC
              clear hC
              refine ⟨?_⟩
              go_simp
              refine hK _ _ rfl ?_
              obtain ⟨c0, cS⟩ := HC.out
              refine ⟨fun h => c0 (by simpa using h), fun h => ?_⟩
              have h9 := cS (by simpa using h)
              exact ⟨by simp [h9.1], h9.2⟩
            refine StepsE.run rfl ?_ ?_
            · intro L U wr hC hP hlk hcl haf A K hFm hK
              simp [Aft, Region.binds] at haf
              have g1 : U 52 = (.slice (some ⟨gp, 0, none⟩) d.f.np cp) := hP 1 52 (by simp [haf]) rfl
              have e52 : A.tmps[52]? = some (.slice (some ⟨gp, 0, none⟩) d.f.np cp) := hFm.is 1 52 rfl g1
              have g2 : U 53 = (.int .i64 (R : Nat)) := hP 2 53 (by simp [haf]) rfl
              have e53 : A.tmps[53]? = some (.int .i64 (R : Nat)) := hFm.is 2 53 rfl g2
              have HC : Hid _ := hC
              clear hC
              refine ⟨?_⟩
              go_simp
              refine hK _ _ rfl ?_
              obtain ⟨c0, cS⟩ := HC.out
              refine ⟨fun h => c0 (by simpa using h), fun h => ?_⟩
              have h9 := cS (by simpa using h)
              exact ⟨by simp [h9.1], h9.2⟩
            refine StepsE.run rfl ?_ ?_
            · intro L U wr hC hP hlk hcl haf A K hFm hK
              simp [Aft, Region.binds] at haf
              have g3 : U 54 = (.pointer (some ⟨gp, R * 3, none⟩)) := hP 3 54 (by simp [haf]) rfl
              have e54 : A.tmps[54]? = some (.pointer (some ⟨gp, R * 3, none⟩)) := hFm.is 3 54 rfl g3
              have HC : Hid _ := hC
              clear hC
              refine ⟨?_⟩
              go_simp
              refine hK _ _ rfl ?_
              obtain ⟨c0, cS⟩ := HC.out
              refine ⟨fun h => c0 (by simpa using h), fun h => ?_⟩
              have h9 := cS (by simpa using h)
              exact ⟨by simp [h9.1], h9.2⟩
            refine StepsE.run rfl ?_ ?_
            · intro L U wr hC hP hlk hcl haf A K hFm hK
              simp [Aft, Region.binds] at haf
              have g4 : U 55 = (.pointer (some ⟨gp, R * 3 + 1, none⟩)) := hP 4 55 (by simp [haf]) rfl
              have e55 : A.tmps[55]? = some (.pointer (some ⟨gp, R * 3 + 1, none⟩)) := hFm.is 4 55 rfl g4
              have n12 : L 12 = false := by cases h : L 12 with | false => rfl | true => have h9 := hcl 12 _ rfl h; simp [Aft, Region.binds, hlk] at h9
              have hb8 := hC.1 n12
              obtain ⟨m1, m2, m3, m4⟩ := HPM.out wr _ _ (HE6.out.below hb8)
              have m5 := (hb8.cell (p := ⟨wl.heap.size, 2, none⟩) HS6.out.2).trans HS6.out.1
              clear hb8 n12
              have HC : Hid _ := hC
              clear hC
              refine ⟨?_⟩
              go_simp
              refine hK _ _ rfl ?_
              obtain ⟨c0, cS⟩ := HC.out
              refine ⟨fun h => c0 (by simpa using h), fun h => ?_⟩
              have h9 := cS (by simpa using h)
              exact ⟨by simp [h9.1], h9.2⟩
            refine StepsE.run rfl ?_ ?_
            · intro L U wr hC hP hlk hcl haf A K hFm hK
              simp [Aft, Region.binds] at haf
              have e6 : A.tmps[6]? = some (.slice (some ⟨gp, 0, none⟩) d.f.np cp) := (hFm.old 6 (by decide)).trans (by kernel_rfl)
              have HC : Hid _ := hC
              clear hC
              refine ⟨?_⟩
              go_simp
              refine hK _ _ rfl ?_
              obtain ⟨c0, cS⟩ := HC.out
              refine ⟨fun h => c0 (by simpa using h), fun h => ?_⟩
              have h9 := cS (by simpa using h)
              exact ⟨by simp [h9.1], h9.2⟩
            refine StepsE.run rfl ?_ ?_
            · intro L U wr hC hP hlk hcl haf A K hFm hK
              simp [Aft, Region.binds] at haf
              have e7 : A.tmps[7]? = some (.pointer (some ⟨wl.heap.size, 0, none⟩)) := (hFm.old 7 (by decide)).trans (by kernel_rfl)
              have HC : Hid _ := hC
              clear hC
              refine ⟨?_⟩
              go_simp
              refine hK _ _ rfl ?_
              obtain ⟨c0, cS⟩ := HC.out
              refine ⟨fun h => c0 (by simpa using h), fun h => ?_⟩
              have h9 := cS (by simpa using h)
              exact ⟨by simp [h9.1], h9.2⟩
            refine StepsE.run rfl ?_ ?_
            · intro L U wr hC hP hlk hcl haf A K hFm hK
              simp [Aft, Region.binds] at haf
              have g7 : U 58 = (.pointer (some ⟨wl.heap.size, 2, none⟩)) := hP 7 58 (by simp [haf]) rfl
              have e58 : A.tmps[58]? = some (.pointer (some ⟨wl.heap.size, 2, none⟩)) := hFm.is 7 58 rfl g7
              have n9 : L 9 = false := by cases h : L 9 with | false => rfl | true => have h9 := hcl 9 _ rfl h; simp [Aft, Region.binds, hlk] at h9
              have n10 : L 10 = false := by cases h : L 10 with | false => rfl | true => have h9 := hcl 10 _ rfl h; simp [Aft, Region.binds, n9] at h9
              have n11 : L 11 = false := by cases h : L 11 with | false => rfl | true => have h9 := hcl 11 _ rfl h; simp [Aft, Region.binds, n10] at h9
              have n12 : L 12 = false := by cases h : L 12 with | false => rfl | true => have h9 := hcl 12 _ rfl h; simp [Aft, Region.binds, n11] at h9
              have hb8 := hC.1 n12
              obtain ⟨m1, m2, m3, m4⟩ := HPM.out wr _ _ (HE6.out.below hb8)
              have m5 := (hb8.cell (p := ⟨wl.heap.size, 2, none⟩) HS6.out.2).trans HS6.out.1
              clear hb8 n9 n10 n11 n12
              have HC : Hid _ := hC
              clear hC
              refine ⟨?_⟩
              go_simp
              refine hK _ _ rfl ?_
              obtain ⟨c0, cS⟩ := HC.out
              refine ⟨fun h => c0 (by simpa using h), fun h => ?_⟩
              have h9 := cS (by simpa using h)
              exact ⟨by simp [h9.1], h9.2⟩
            refine StepsE.run rfl ?_ ?_
            · intro L U wr hC hP hlk hcl haf A K hFm hK
              simp [Aft, Region.binds] at haf
              have g6 : U 57 = (.slice (some ⟨gp, 0, none⟩) d.f.np cp) := hP 6 57 (by simp [haf]) rfl
              have e57 : A.tmps[57]? = some (.slice (some ⟨gp, 0, none⟩) d.f.np cp) := hFm.is 6 57 rfl g6
              have g8 : U 59 = (.int .i64 (y : Nat)) := hP 8 59 (by simp [haf]) rfl
              have e59 : A.tmps[59]? = some (.int .i64 (y : Nat)) := hFm.is 8 59 rfl g8
              have HC : Hid _ := hC
              clear hC
              refine ⟨?_⟩
              go_simp
              refine hK _ _ rfl ?_
              obtain ⟨c0, cS⟩ := HC.out
              refine ⟨fun h => c0 (by simpa using h), fun h => ?_⟩
              have h9 := cS (by simpa using h)
              exact ⟨by simp [h9.1], h9.2⟩
            refine StepsE.run rfl ?_ ?_
            · intro L U wr hC hP hlk hcl haf A K hFm hK
              simp [Aft, Region.binds] at haf
              have g9 : U 60 = (.pointer (some ⟨gp, y * 3, none⟩)) := hP 9 60 (by simp [haf]) rfl
              have e60 : A.tmps[60]? = some (.pointer (some ⟨gp, y * 3, none⟩)) := hFm.is 9 60 rfl g9
              have HC : Hid _ := hC
              clear hC
              refine ⟨?_⟩
              go_simp
              refine hK _ _ rfl ?_
              obtain ⟨c0, cS⟩ := HC.out
              refine ⟨fun h => c0 (by simpa using h), fun h => ?_⟩
              have h9 := cS (by simpa using h)
              exact ⟨by simp [h9.1], h9.2⟩
            refine StepsE.run rfl ?_ ?_
            · intro L U wr hC hP hlk hcl haf A K hFm hK
              simp [Aft, Region.binds] at haf
              have g10 : U 61 = (.pointer (some ⟨gp, y * 3 + 1, none⟩)) := hP 10 61 (by simp [haf]) rfl
              have e61 : A.tmps[61]? = some (.pointer (some ⟨gp, y * 3 + 1, none⟩)) := hFm.is 10 61 rfl g10
              have n12 : L 12 = false := by cases h : L 12 with | false => rfl | true => have h9 := hcl 12 _ rfl h; simp [Aft, Region.binds, hlk] at h9
              have hb8 := hC.1 n12
              obtain ⟨m1, m2, m3, m4⟩ := HPM.out wr _ _ (HE6.out.below hb8)
              have m5 := (hb8.cell (p := ⟨wl.heap.size, 2, none⟩) HS6.out.2).trans HS6.out.1
              clear hb8 n12
              have HC : Hid _ := hC
              clear hC
              refine ⟨?_⟩
              go_simp
              refine hK _ _ rfl ?_
              obtain ⟨c0, cS⟩ := HC.out
              refine ⟨fun h => c0 (by simpa using h), fun h => ?_⟩
              have h9 := cS (by simpa using h)
              exact ⟨by simp [h9.1], h9.2⟩
            refine StepsE.run rfl ?_ StepsE.nil
            · intro L U wr hC hP hlk hcl haf A K hFm hK
              simp [Aft, Region.binds] at haf
              have g0 : U 51 = (.pointer (some ⟨p, 0, none⟩)) := hP 0 51 (by simp [haf]) rfl
              have e51 : A.tmps[51]? = some (.pointer (some ⟨p, 0, none⟩)) := hFm.is 0 51 rfl g0
              have g5 : U 56 = (.int .i64 (ar : Nat)) := hP 5 56 (by simp [haf]) rfl
              have e56 : A.tmps[56]? = some (.int .i64 (ar : Nat)) := hFm.is 5 56 rfl g5
              have g11 : U 62 = (.int .i64 (ay : Nat)) := hP 11 62 (by simp [haf]) rfl
              have e62 : A.tmps[62]? = some (.int .i64 (ay : Nat)) := hFm.is 11 62 rfl g11
              have l0 : L 0 = true := by simp [haf]
              have l5 : L 5 = true := by simp [haf]
              have l11 : L 11 = true := by simp [haf]
              have a5 := hcl 5 _ rfl l5
              simp [Aft, Region.binds] at a5
              have l4 : L 4 = true := by simp [a5]
              have a11 := hcl 11 _ rfl l11
              simp [Aft, Region.binds] at a11
              have l10 : L 10 = true := by simp [a11]
              have a4 := hcl 4 _ rfl l4
              simp [Aft, Region.binds] at a4
              have l3 : L 3 = true := by simp [a4]
              have a10 := hcl 10 _ rfl l10
              simp [Aft, Region.binds] at a10
              have l9 : L 9 = true := by simp [a10]
              have a3 := hcl 3 _ rfl l3
              simp [Aft, Region.binds] at a3
              have l1 : L 1 = true := by simp [a3]
              have l2 : L 2 = true := by simp [a3]
              have a9 := hcl 9 _ rfl l9
              simp [Aft, Region.binds] at a9
              have l6 : L 6 = true := by simp [a9]
              have l8 : L 8 = true := by simp [a9]
              have a8 := hcl 8 _ rfl l8
              simp [Aft, Region.binds] at a8
              have l7 : L 7 = true := by simp [a8]
              refine ⟨?_⟩
              have HCr : Hid _ := HE6.out.below (hC.1 hlk)
              have HB9 : Hid _ := hC.1 hlk
              have HL : Hid (L 0 = true ∧ L 1 = true ∧ L 2 = true ∧ L 3 = true ∧ L 4 = true ∧ L 5 = true ∧ L 6 = true ∧ L 7 = true ∧ L 8 = true ∧ L 9 = true ∧ L 10 = true ∧ L 11 = true) := ⟨l0, l1, l2, l3, l4, l5, l6, l7, l8, l9, l10, l11⟩
              clear hC
              have hgl := HCr.out.aw.lt
              go_simp
              refine (ask_any p g ({ x' with vW := v6 }) (askC c' fr fy) d ar ay wr HCr.out harn hayn (by have h9 := (askC_mono c' fr fy).2.2.2.2; have := HWL.out; omega)).mono ?_
              rintro e w1 ⟨rfl, v9, a1, a2, a3⟩
              go_simp
              refine hK _ _ rfl ⟨fun h => by simp at h, fun _ => ⟨by simp [HL.out], v9, a1, (Mv.below HB9.out).trans a2 (fun q hq => Or.inl hq), ?_⟩⟩
              rcases a3 with h9 | ⟨q, h8, h9⟩
              · exact Or.inl h9
              · exact Or.inr ⟨q, h8, Nat.le_trans HB9.out.size h9⟩
          intro L U7 V7 hall hC hP
          have HE7 : Hid _ := (hC.2 (hall 12 (by decide))).2
          clear hC hP hall
          simp only [setM_some, setM_none, setM_nil]
          go_wp2_with fail
          go_meet
          obtain ⟨v7, b1, b2, b3⟩ := HE7.out
          obtain ⟨t1, t2, t3, t4, t5⟩ := two_asks c' (S := d.s.S) (ns := d.s.ns) HKX.out.k.wts hfrn hfyn HPQ.out.2.2.2.2.1 harn hayn HPQ.out.2.2.2.2.2
          have f6 : Fx2 x' { x' with vW := v6 } V.heap.size := ⟨rfl, rfl, HX6.out.2, Or.inl rfl⟩
          have f7 : Fx2 { x' with vW := v6 } { x' with vW := v7 } V6.heap.size := ⟨rfl, rfl, b3, Or.inl rfl⟩
          refine ⟨rfl, rfl, _, _, b1, ⟨t1, Or.inl ⟨HWY.out, t2, ?_, ?_⟩, t5⟩, HX6.out.1.trans b2 (fun q hq => f6.fy q hq), f6.trans f7 HX6.out.1.size⟩
          · rw [HPQ.out.1, HPQ.out.2.2.1, Int.toNat_natCast, Int.toNat_natCast]; exact t3
          · rw [HPQ.out.2.1, HPQ.out.2.2.2.1, Int.toNat_natCast, Int.toNat_natCast]; exact t4
        · have HW1 : Hid ((d.s.S R).why ≠ -1) := by rw [HWY.out]; exact hw1
          have HEL : Hid (c'.eq.length + 1 ≤ 1000000000) := by
            have h9 := HKX.out.k.len
            have h8 := gc_le c'.ab d.s.ns
            show _ ≤ _
            omega
          have HE : Hid (EX V p g x' c' d) := HV.out.e
          have hpl := HE.out.aw.lt
          have hvl := HVC.out.2.2.1
          have hwb : x'.vE.ownBlock ≠ some wl.heap.size := fun e => by have := HKX.out.e.aw.fyLt (Or.inr (Or.inr (Or.inr (Or.inr e)))); omega
          have hwp : x'.vE.ownBlock ≠ some p := HE.out.aw.eqs.neB HE.out.aw.blk (by decide)
          have m0 : V.cell? ⟨p, 4, none⟩ = some x'.vE := HE.out.aw.cells.2.2.2.2
          have d0 := HVC.out.2.1
          have hblk := HE.out.aw.blk
          go_wp2
          obtain ⟨E5, hE5⟩ : ∃ E5 : World → Prop, E5 = fun w9 => ∃ v, EX w9 p g { x' with vE := v } { c' with eq := c'.eq ++ [wy] } d ∧ Mv (Fy p x') V w9 ∧ (v.ownBlock = x'.vE.ownBlock ∨ ∃ q, v.ownBlock = some q ∧ V.heap.size ≤ q) := ⟨_, rfl⟩
          obtain ⟨M5, hM5⟩ : ∃ M5 : World → Prop, M5 = fun w9 => w9.cell? ⟨p, 4, none⟩ = some x'.vE ∧ w9.cell? ⟨wl.heap.size, 3, none⟩ = some (.int .i64 wy) := ⟨_, rfl⟩
          have HM0 : Hid (∀ w9, Below V.heap.size V w9 → M5 w9) := by
            intro w9 h1; rw [hM5]
            exact ⟨(h1.cell (p := ⟨p, 4, none⟩) hpl).trans m0, (h1.cell (p := ⟨wl.heap.size, 3, none⟩) hvl).trans d0⟩
          have HM1 : Hid (∀ w9 v9, App x'.vE v9 V w9 → M5 w9) := by
            intro w9 v9 h1; rw [hM5]
            exact ⟨(World.cell?_of_block (a := ⟨p, 4, none⟩) (h1.other p hpl hwp)).trans m0, (World.cell?_of_block (a := ⟨wl.heap.size, 3, none⟩) (h1.other _ hvl hwb)).trans d0⟩
          have HFZ : Hid (∀ w9 v9, App x'.vE v9 V w9 → w9.cell? ⟨p, 4, none⟩ = some x'.vE ∧ w9.frozen? ⟨p, 4, none⟩ = false) := by
            intro w9 v9 h1
            have h2 := HM1.out w9 v9 h1
            rw [hM5] at h2
            exact ⟨h2.1, frozen_of_row w9 p 4 _ 62 ((h1.other p hpl hwp).trans hblk)⟩
          have HOWN : Hid (∀ w9, Below V.heap.size V w9 → OL 1 3 w9 x'.vE c'.eq.length (inC c'.eq)) := fun w9 h1 => (HE.out.below h1).aw.eqs
          have HNB : Hid (c'.eq.length + 1 ≤ 1000000000) := HEL.out
          have HSET : Hid (∀ w9 v9, OL 1 3 w9 v9 (c'.eq.length + 1) (inC (c'.eq ++ [wy])) → App x'.vE v9 V w9 → v9 ≠ .slice none 0 0 → E5 (w9.setCell ⟨p, 4, none⟩ v9)) := by
            intro w9 v9 h1 h2 h3
            rw [hE5]
            obtain ⟨k1, k2⟩ := HE.out.aw.pushEqs wy h2 h1
            have k3 : Mv (Fy p x') V (w9.setCell ⟨p, 4, none⟩ v9) := ⟨k2.os, k2.tape, k2.output, k2.size, fun q hq hn => k2.other q hq (fun h9 => hn (h9.elim Or.inl (fun h8 => Or.inr (Or.inr (Or.inr (Or.inr h8))))))⟩
            have k4 : Fx2 x' { x' with vE := v9 } V.heap.size := ⟨rfl, rfl, Or.inl rfl, h2.at_⟩
            exact ⟨v9, HE.out.mv k3 (fun q hq => Or.inl hq) k1 (fun q hq => k4.fy q hq), k3, h2.at_⟩
          clear m0 hblk hwb hwp d0
          refine wp_region_E (by kernel_rfl) [some 64, some 65, some 66, some 67, some 68, some 69, some 70, some 71, some 72, some 73, some 74, none] [none, none, none, none, none, none, none, none, none, none, none, none, none, none, none, none, none, none, none, none, none, none, none, none, none, none, none, none, none, none, none, none, none, none, none, none, none, none, none, none, none, none, none, none, none, none, none, none, none, none, none, none, none, none, none, none, none, none, none, none, none, none, none, none, some 64, some 65, some 66, some 67, some 68, some 69, some 70, some 71, some 72, some 73, some 74] (fun U => by kernel_rfl) [fun u => u = (.pointer (some ⟨p, 0, none⟩)), fun u => u = (.pointer (some ⟨p, 0, none⟩)), fun u => u = (.pointer (some ⟨p, 0, none⟩)), fun u => u = (.pointer (some ⟨p, 4, none⟩)), fun u => u = (x'.vE), fun u => u = (.pointer (some ⟨wl.heap.size, 3, none⟩)), fun u => u = (.int .i64 wy), fun _ => True, fun _ => True, fun u => u = (.pointer (some ⟨p, 0, none⟩)), fun u => u = (.pointer (some ⟨p, 4, none⟩)), fun _ => True] (fun L U wr => (L 8 = false → Below V.heap.size V wr) ∧ (L 7 = true → L 8 = false → ONE5 3 [.int .i64 wy] (U 71) wr) ∧ (L 8 = true → L 11 = false → OL 1 3 wr (U 72) (c'.eq.length + 1) (inC (c'.eq ++ [wy])) ∧ App (x'.vE) (U 72) V wr ∧ U 72 ≠ .slice none 0 0) ∧ (L 11 = true → (L 0 = true ∧ L 1 = true ∧ L 2 = true ∧ L 3 = true ∧ L 4 = true ∧ L 5 = true ∧ L 6 = true ∧ L 7 = true ∧ L 8 = true ∧ L 9 = true ∧ L 10 = true) ∧ E5 wr)) (by kernel_rfl) (by decide) (by kernel_rfl) (by kernel_rfl) ?_ ?_ ?_
          · exact fun U => ⟨fun _ => (Below.refl _ _).drew, (fun h => by cases h), (fun h => by cases h), (fun h => by cases h)⟩
          · refine StepsE.run rfl ?_ ?_
            · intro L U wr hC hP hlk hcl haf A K hFm hK
              simp [Aft, Region.binds] at haf
              have e0 : A.tmps[0]? = some (.pointer (some ⟨p, 0, none⟩)) := (hFm.old 0 (by decide)).trans (by kernel_rfl)
              have HC : Hid _ := hC
              clear hC
              refine ⟨?_⟩
              go_simp
              refine hK _ _ rfl ?_
              obtain ⟨c0, cB, c1, cS⟩ := HC.out
              refine ⟨fun h => c0 (by simpa using h), (fun h1 h2 => by have h9 := cB (by simpa using h1) (by simpa using h2); simpa [updO, Go.Proofs.Ytmnpefiaelpkfac.upd] using h9), (fun h1 h2 => by have h9 := c1 (by simpa using h1) (by simpa using h2); simpa [updO, Go.Proofs.Ytmnpefiaelpkfac.upd] using h9), fun h => ?_⟩
              have h9 := cS (by simpa using h)
              exact ⟨by simp [h9.1], h9.2⟩
            refine StepsE.run rfl ?_ ?_
            · intro L U wr hC hP hlk hcl haf A K hFm hK
              simp [Aft, Region.binds] at haf
              have e0 : A.tmps[0]? = some (.pointer (some ⟨p, 0, none⟩)) := (hFm.old 0 (by decide)).trans (by kernel_rfl)
              have HC : Hid _ := hC
              clear hC
              refine ⟨?_⟩
              go_simp
              refine hK _ _ rfl ?_
              obtain ⟨c0, cB, c1, cS⟩ := HC.out
              refine ⟨fun h => c0 (by simpa using h), (fun h1 h2 => by have h9 := cB (by simpa using h1) (by simpa using h2); simpa [updO, Go.Proofs.Ytmnpefiaelpkfac.upd] using h9), (fun h1 h2 => by have h9 := c1 (by simpa using h1) (by simpa using h2); simpa [updO, Go.Proofs.Ytmnpefiaelpkfac.upd] using h9), fun h => ?_⟩
              have h9 := cS (by simpa using h)
              exact ⟨by simp [h9.1], h9.2⟩
            refine StepsE.run rfl ?_ ?_
            · intro L U wr hC hP hlk hcl haf A K hFm hK
              simp [Aft, Region.binds] at haf
              have g1 : U 65 = (.pointer (some ⟨p, 0, none⟩)) := hP 1 65 (by simp [haf]) rfl
              have e65 : A.tmps[65]? = some (.pointer (some ⟨p, 0, none⟩)) := hFm.is 1 65 rfl g1
              have HC : Hid _ := hC
              clear hC
              refine ⟨?_⟩
              go_simp
              refine hK _ _ rfl ?_
              obtain ⟨c0, cB, c1, cS⟩ := HC.out
              refine ⟨fun h => c0 (by simpa using h), (fun h1 h2 => by have h9 := cB (by simpa using h1) (by simpa using h2); simpa [updO, Go.Proofs.Ytmnpefiaelpkfac.upd] using h9), (fun h1 h2 => by have h9 := c1 (by simpa using h1) (by simpa using h2); simpa [updO, Go.Proofs.Ytmnpefiaelpkfac.upd] using h9), fun h => ?_⟩
              have h9 := cS (by simpa using h)
              exact ⟨by simp [h9.1], h9.2⟩
            refine StepsE.run rfl ?_ ?_
            · intro L U wr hC hP hlk hcl haf A K hFm hK
              simp [Aft, Region.binds] at haf
              have g2 : U 66 = (.pointer (some ⟨p, 0, none⟩)) := hP 2 66 (by simp [haf]) rfl
              have e66 : A.tmps[66]? = some (.pointer (some ⟨p, 0, none⟩)) := hFm.is 2 66 rfl g2
              have HC : Hid _ := hC
              clear hC
              refine ⟨?_⟩
              go_simp
              refine hK _ _ rfl ?_
              obtain ⟨c0, cB, c1, cS⟩ := HC.out
              refine ⟨fun h => c0 (by simpa using h), (fun h1 h2 => by have h9 := cB (by simpa using h1) (by simpa using h2); simpa [updO, Go.Proofs.Ytmnpefiaelpkfac.upd] using h9), (fun h1 h2 => by have h9 := c1 (by simpa using h1) (by simpa using h2); simpa [updO, Go.Proofs.Ytmnpefiaelpkfac.upd] using h9), fun h => ?_⟩
              have h9 := cS (by simpa using h)
              exact ⟨by simp [h9.1], h9.2⟩
            refine StepsE.run rfl ?_ ?_
            · intro L U wr hC hP hlk hcl haf A K hFm hK
              simp [Aft, Region.binds] at haf
              have g3 : U 67 = (.pointer (some ⟨p, 4, none⟩)) := hP 3 67 (by simp [haf]) rfl
              have e67 : A.tmps[67]? = some (.pointer (some ⟨p, 4, none⟩)) := hFm.is 3 67 rfl g3
              have hM8 : M5 wr := by
                obtain ⟨c0, cB, c1, cS⟩ := hC
                have hs : L 11 = false := by cases h : L 11 with | false => rfl | true => exact absurd (cS h).1 (by simp [hlk])
                cases h14 : L 8 with
                | false => exact HM0.out wr (c0 h14)
                | true => exact HM1.out wr (U 72) (c1 h14 hs).2.1
              rw [hM5] at hM8
              obtain ⟨m7, mq0⟩ := hM8
              have HC : Hid _ := hC
              clear hC
              refine ⟨?_⟩
              go_simp
              refine hK _ _ rfl ?_
              obtain ⟨c0, cB, c1, cS⟩ := HC.out
              refine ⟨fun h => c0 (by simpa using h), (fun h1 h2 => by have h9 := cB (by simpa using h1) (by simpa using h2); simpa [updO, Go.Proofs.Ytmnpefiaelpkfac.upd] using h9), (fun h1 h2 => by have h9 := c1 (by simpa using h1) (by simpa using h2); simpa [updO, Go.Proofs.Ytmnpefiaelpkfac.upd] using h9), fun h => ?_⟩
              have h9 := cS (by simpa using h)
              exact ⟨by simp [h9.1], h9.2⟩
            refine StepsE.run rfl ?_ ?_
            · intro L U wr hC hP hlk hcl haf A K hFm hK
              simp [Aft, Region.binds] at haf
              have e7 : A.tmps[7]? = some (.pointer (some ⟨wl.heap.size, 0, none⟩)) := (hFm.old 7 (by decide)).trans (by kernel_rfl)
              have HC : Hid _ := hC
              clear hC
              refine ⟨?_⟩
              go_simp
              refine hK _ _ rfl ?_
              obtain ⟨c0, cB, c1, cS⟩ := HC.out
              refine ⟨fun h => c0 (by simpa using h), (fun h1 h2 => by have h9 := cB (by simpa using h1) (by simpa using h2); simpa [updO, Go.Proofs.Ytmnpefiaelpkfac.upd] using h9), (fun h1 h2 => by have h9 := c1 (by simpa using h1) (by simpa using h2); simpa [updO, Go.Proofs.Ytmnpefiaelpkfac.upd] using h9), fun h => ?_⟩
              have h9 := cS (by simpa using h)
              exact ⟨by simp [h9.1], h9.2⟩
            refine StepsE.run rfl ?_ ?_
            · intro L U wr hC hP hlk hcl haf A K hFm hK
              simp [Aft, Region.binds] at haf
              have g5 : U 69 = (.pointer (some ⟨wl.heap.size, 3, none⟩)) := hP 5 69 (by simp [haf]) rfl
              have e69 : A.tmps[69]? = some (.pointer (some ⟨wl.heap.size, 3, none⟩)) := hFm.is 5 69 rfl g5
              have hM8 : M5 wr := by
                obtain ⟨c0, cB, c1, cS⟩ := hC
                have hs : L 11 = false := by cases h : L 11 with | false => rfl | true => exact absurd (cS h).1 (by simp [hlk])
                cases h14 : L 8 with
                | false => exact HM0.out wr (c0 h14)
                | true => exact HM1.out wr (U 72) (c1 h14 hs).2.1
              rw [hM5] at hM8
              obtain ⟨m7, mq0⟩ := hM8
              have HC : Hid _ := hC
              clear hC
              refine ⟨?_⟩
              go_simp
              refine hK _ _ rfl ?_
              obtain ⟨c0, cB, c1, cS⟩ := HC.out
              refine ⟨fun h => c0 (by simpa using h), (fun h1 h2 => by have h9 := cB (by simpa using h1) (by simpa using h2); simpa [updO, Go.Proofs.Ytmnpefiaelpkfac.upd] using h9), (fun h1 h2 => by have h9 := c1 (by simpa using h1) (by simpa using h2); simpa [updO, Go.Proofs.Ytmnpefiaelpkfac.upd] using h9), fun h => ?_⟩
              have h9 := cS (by simpa using h)
              exact ⟨by simp [h9.1], h9.2⟩
            refine StepsE.run rfl ?_ ?_
            · intro L U wr hC hP hlk hcl haf A K hFm hK
              simp [Aft, Region.binds] at haf
              have g6 : U 70 = (.int .i64 wy) := hP 6 70 (by simp [haf]) rfl
              have e70 : A.tmps[70]? = some (.int .i64 wy) := hFm.is 6 70 rfl g6
              have hA9 : L 8 = false := by cases h : L 8 with | false => rfl | true => have h9 := hcl 8 _ rfl h; simp [Aft, Region.binds, hlk] at h9
              refine ⟨?_⟩
              go_simp
              refine hK _ _ trivial ⟨fun h => ?_, fun _ _ => ?_, fun h1 h2 => ?_, fun h => ?_⟩
              · exact ((hC.1 hA9).alloc (hC.1 hA9).size _)
              · exact ⟨wr.heap.size, rfl, heap_alloc_new wr _⟩
              · simp [hA9] at h1
              · have h9 := (hC.2.2.2 (by simpa using h)).1
                simp [hlk] at h9
            refine StepsE.run rfl ?_ ?_
            · intro L U wr hC hP hlk hcl haf A K hFm hK
              simp [Aft, Region.binds] at haf
              have g4 : U 68 = (x'.vE) := hP 4 68 (by simp [haf]) rfl
              have e68 : A.tmps[68]? = some (x'.vE) := hFm.is 4 68 rfl g4
              have e71 : A.tmps[71]? = some (U 71) := hFm.got 7 71 rfl
              have l7 : L 7 = true := by simp [haf]
              refine ⟨?_⟩
              refine wp_push1 (.tmp 68) (.tmp 71) 31 rfl 1 3 _ 8 uIntsE iIntE (by decide) rfl (by decide) (x'.vE) (c'.eq.length) (inC c'.eq) (by simp [Act.eval, e68]) (HOWN.out wr (hC.1 hlk)) (fun _ _ => rfl) [.int .i64 wy] 3 (U 71) (hC.2.1 l7 hlk) (by simp [Act.eval, e71]) rfl (by intro u hu; simp at hu; subst hu; rfl) HNB.out (inC (c'.eq ++ [wy])) (fun k hk => by simp [inC, List.getElem?_append_left hk]) (by simp [inC]) ?_
              intro v9 w9 hol9 hap9 hne9
              refine hK _ _ trivial ⟨fun h => ?_, fun _ h => ?_, fun _ _ => ?_, fun h => ?_⟩
              · simp at h
              · simp at h
              · simp only [updO, Go.Proofs.Ytmnpefiaelpkfac.upd, beq_self_eq_true, cond_true]; exact ⟨hol9, hap9.ofBelow (hC.1 hlk), hne9⟩
              · have h9 := (hC.2.2.2 (by simpa using h)).1
                simp [hlk] at h9
            refine StepsE.run rfl ?_ ?_
            · intro L U wr hC hP hlk hcl haf A K hFm hK
              simp [Aft, Region.binds] at haf
              have g0 : U 64 = (.pointer (some ⟨p, 0, none⟩)) := hP 0 64 (by simp [haf]) rfl
              have e64 : A.tmps[64]? = some (.pointer (some ⟨p, 0, none⟩)) := hFm.is 0 64 rfl g0
              have HC : Hid _ := hC
              clear hC
              refine ⟨?_⟩
              go_simp
              refine hK _ _ rfl ?_
              obtain ⟨c0, cB, c1, cS⟩ := HC.out
              refine ⟨fun h => c0 (by simpa using h), (fun h1 h2 => by have h9 := cB (by simpa using h1) (by simpa using h2); simpa [updO, Go.Proofs.Ytmnpefiaelpkfac.upd] using h9), (fun h1 h2 => by have h9 := c1 (by simpa using h1) (by simpa using h2); simpa [updO, Go.Proofs.Ytmnpefiaelpkfac.upd] using h9), fun h => ?_⟩
              have h9 := cS (by simpa using h)
              exact ⟨by simp [h9.1], h9.2⟩
            refine StepsE.run rfl ?_ ?_
            · intro L U wr hC hP hlk hcl haf A K hFm hK
              simp [Aft, Region.binds] at haf
              have g9 : U 73 = (.pointer (some ⟨p, 0, none⟩)) := hP 9 73 (by simp [haf]) rfl
              have e73 : A.tmps[73]? = some (.pointer (some ⟨p, 0, none⟩)) := hFm.is 9 73 rfl g9
              have HC : Hid _ := hC
              clear hC
              refine ⟨?_⟩
              go_simp
              refine hK _ _ rfl ?_
              obtain ⟨c0, cB, c1, cS⟩ := HC.out
              refine ⟨fun h => c0 (by simpa using h), (fun h1 h2 => by have h9 := cB (by simpa using h1) (by simpa using h2); simpa [updO, Go.Proofs.Ytmnpefiaelpkfac.upd] using h9), (fun h1 h2 => by have h9 := c1 (by simpa using h1) (by simpa using h2); simpa [updO, Go.Proofs.Ytmnpefiaelpkfac.upd] using h9), fun h => ?_⟩
              have h9 := cS (by simpa using h)
              exact ⟨by simp [h9.1], h9.2⟩
            refine StepsE.run rfl ?_ StepsE.nil
            · intro L U wr hC hP hlk hcl haf A K hFm hK
              simp [Aft, Region.binds] at haf
              have g10 : U 74 = (.pointer (some ⟨p, 4, none⟩)) := hP 10 74 (by simp [haf]) rfl
              have e74 : A.tmps[74]? = some (.pointer (some ⟨p, 4, none⟩)) := hFm.is 10 74 rfl g10
              have e72 : A.tmps[72]? = some (U 72) := hFm.got 8 72 rfl
              have l10 : L 10 = true := by simp [haf]
              have l8 : L 8 = true := by simp [haf]
              have a10 := hcl 10 _ rfl l10
              simp [Aft, Region.binds] at a10
              have l9 : L 9 = true := by simp [a10]
              have a8 := hcl 8 _ rfl l8
              simp [Aft, Region.binds] at a8
              have l4 : L 4 = true := by simp [a8]
              have l7 : L 7 = true := by simp [a8]
              have a9 := hcl 9 _ rfl l9
              simp [Aft, Region.binds] at a9
              have l0 : L 0 = true := by simp [a9]
              have a4 := hcl 4 _ rfl l4
              simp [Aft, Region.binds] at a4
              have l3 : L 3 = true := by simp [a4]
              have a7 := hcl 7 _ rfl l7
              simp [Aft, Region.binds] at a7
              have l6 : L 6 = true := by simp [a7]
              have a3 := hcl 3 _ rfl l3
              simp [Aft, Region.binds] at a3
              have l2 : L 2 = true := by simp [a3]
              have a6 := hcl 6 _ rfl l6
              simp [Aft, Region.binds] at a6
              have l5 : L 5 = true := by simp [a6]
              have a2 := hcl 2 _ rfl l2
              simp [Aft, Region.binds] at a2
              have l1 : L 1 = true := by simp [a2]
              refine ⟨?_⟩
              obtain ⟨hol9, hap9, hne9⟩ := hC.2.2.1 l8 hlk
              have HKK : Hid _ := HSET.out wr (U 72) hol9 hap9 hne9
              obtain ⟨k4, k5⟩ := HFZ.out wr (U 72) hap9
              obtain ⟨ao9, cc9, hv9, -, -, -, -⟩ := hol9.shape
              obtain ⟨nl, hnl⟩ : ∃ nl, nl = c'.eq.length + 1 := ⟨_, rfl⟩
              rw [← hnl] at hv9
              clear hnl
              have e72 : A.tmps[72]? = some (.slice ao9 nl cc9) := hFm.is 8 72 rfl hv9
              rw [hv9] at HKK
              clear hol9 hap9 hne9 hC
              go_simp
              refine hK (.tuple #[]) _ trivial ⟨fun h => ?_, fun h1 h2 => ?_, fun h1 h2 => ?_, fun _ => ⟨?_, HKK.out⟩⟩
              · simp [l8] at h
              · simp [l8] at h2
              · simp at h2
              · simp [l0, l1, l2, l3, l4, l5, l6, l7, l8, l9, l10]
          intro L U5 V5 hall hC hP
          have hE := (hC.2.2.2 (hall 11 (by decide))).2
          rw [hE5] at hE
          clear hC hP hall hE5 hM5 HM0 HM1 HFZ HOWN HSET
          have HE8 : Hid _ := hE
          clear hE
          simp only [setM_some, setM_none, setM_nil]
          go_wp2_with fail
          go_meet
          obtain ⟨v, q1, q2, q3⟩ := HE8.out
          refine ⟨rfl, rfl, _, _, q1, ⟨⟨fun q hq => hq, fun q hq => hq, rfl, fun q hq => Or.inl hq, HKX.out.k.wts⟩, Or.inr ⟨HW1.out, by rw [HWY.out]⟩, Nat.le_add_right _ _⟩, q2, rfl, rfl, Or.inl rfl, q3⟩
      case rest =>
        obtain ⟨rfl, rfl, x2, c2, HC⟩ := hcut
        have v2 : wc.cell? ⟨wl.heap.size, 2, none⟩ = some (.int .i64 (y : Nat)) := (World.cell?_of_block (a := ⟨wl.heap.size, 2, none⟩) (HC.out.2.2.1.other _ HVC.out.2.2.1 (fun h9 => absurd (HKX.out.e.aw.fyLt h9) (Nat.lt_irrefl _)))).trans HVC.out.1
        have hvl : wl.heap.size < wc.heap.size := Nat.lt_of_lt_of_le HVC.out.2.2.1 HC.out.2.2.1.size
        have hcab : c2.ab = c'.ab := HC.out.2.1.1.2.2.1
        obtain ⟨w5, hrun, hA5, hM5⟩ := (HC.out.1.below (Below.refl _ _).drew).aw.putA R y hRn (by omega) (fun k z hz => (HKX.out.k.ab.up k z (by rw [← hcab]; exact hz)).1)
        have hE5 : EX w5 p g x2 { c2 with ab := upd c2.ab R (some y) } d := (HC.out.1.below (Below.refl _ _).drew).mv hM5 (fun q hq => Or.inl (Or.inr (Or.inr (Or.inl hq)))) hA5 (fun q hq => Or.inl hq)
        have hK5 : Know d.f d.s { c2 with ab := upd c2.ab R (some y) } ex := HKX.out.k.mark HK.out.inv HK.out.hist hRn hyn HY.out.1 HR.out.2.2.2.1 HC.out.2.1.1 HC.out.2.1.2.1
        have HK5 : Hid (KX w5 p g x2 { c2 with ab := upd c2.ab R (some y) } d ex ∧ Mv (Fy p x) w w5 ∧ Fx2 x x2 w.heap.size) := by
          have g1 := HR.out.2.2.2.2.2.2.2.2.2.2.1
          have g2 := HR.out.2.2.2.2.2.2.2.2.2.2.2
          have g3 : Mv (Fy p x) w V := g1.trans (Mv.below (F := Fy p x) HVC.out.2.2.2) (fun q hq => Or.inl hq)
          have g4 : Mv (Fy p x) w wc := g3.trans HC.out.2.2.1 (fun q hq => g2.fy q hq)
          have g5 : Fx2 x x2 w.heap.size := g2.trans HC.out.2.2.2 g3.size
          refine ⟨⟨hE5, hK5⟩, (g4.drew).trans hM5 (fun q hq => ?_), g5⟩
          rw [hq, g5.2.1]
          exact Or.inl (Or.inr (Or.inr (Or.inl rfl)))
        obtain ⟨-, -, -, s3, -⟩ := HC.out.1.aw.cells
        have hpl := HC.out.1.aw.lt
        clear hA5 hM5 hE5 hK5 hcab
        go_wp2
        go_region
        go_wp2_with fail
        refine (top_any d.s.S p g x2 { c2 with ab := upd c2.ab R (some y) } d.s.ns R gk w5 HK5.out.1.e.aw HK5.out.1.k.ab hRn HR.out.1).mono ?_
        rintro e w6 ⟨R', rfl, hT⟩
        obtain ⟨t1, t2, t3, ab6, hE6, t5, t6, hM6⟩ := hT.ex HK5.out.1.e
        have gmk : ∀ k, AbG (upd c2.ab R (some y)) k ↔ k = R ∨ AbG c'.ab k := fun k => by rw [HC.out.2.1.1.2.2.1]; exact abG_upd c'.ab R y k
        have t2' : ∃ m, Ups d.s.S (R' : Int) m ∧ m < gk := by
          obtain ⟨m, e1, e2⟩ := HR.out.1.nat
          cases t2 with
          | refl => exact absurd ((gmk R).2 (Or.inl rfl)) t3
          | @step _ y' _ _ k2 k3 =>
            rw [k2] at e2
            obtain ⟨m', e3, e4, _⟩ := k3.short e2
            exact ⟨m', e3, by omega⟩
        obtain ⟨m6, HM6⟩ : ∃ m, Hid (Ups d.s.S (R' : Int) m ∧ m < gk) := t2'
        have hMR : M ≠ R := fun e => hRI (by rw [e])
        have hMg : ¬ AbG (upd c2.ab R (some y)) M := fun h9 => ((gmk M).1 h9).elim hMR HR.out.2.2.2.2.2.1
        have HF : Hid (R' < d.s.ns ∧ Up d.s.S (AbG ab6) i R' ∧ ¬ AbG ab6 R' ∧ Anc d.s.S R' M ∧ ¬ AbG ab6 M ∧ (∀ k, AbG c.ab k → AbG ab6 k) ∧ (∀ q, c.se q = true → c2.se q = true) ∧ KX w6 p g x2 { c2 with ab := ab6 } d ex ∧ mes d.s.ns { c2 with ab := ab6 } ≤ mes d.s.ns c ∧ Mv (Fy p x) w w6 ∧ Fx2 x x2 w.heap.size) := by
          refine ⟨t1, ?_, fun h9 => t3 ((t6 R').1 h9), first_below ⟨gk, HR.out.1⟩ HR.out.2.2.2.2.1 hMg t2 t3, fun h9 => hMg ((t6 M).1 h9), fun k hk => (t6 k).2 ((gmk k).2 (Or.inr (HR.out.2.2.2.2.2.2.1 k hk))), fun q hq => HC.out.2.1.1.1 q (HR.out.2.2.2.2.2.2.2.1 q hq), ⟨hE6, HK5.out.1.k.table t5 t6⟩, ?_, HK5.out.2.1.trans hM6 (fun q hq => ?_), HK5.out.2.2⟩
          · have u1 : Up d.s.S (AbG ab6) i R := HR.out.2.2.1.mono (fun k hk => (t6 k).2 ((gmk k).2 (Or.inr hk)))
            exact u1.trans (t2.mono (fun k hk => (t6 k).2 hk))
          · have g1 := HR.out.2.2.2.2.2.2.2.2.2.1
            have g2 := HC.out.2.1.2.2
            have g3 : mes d.s.ns c' = c'.wt.length + 2 * (d.s.ns - gc d.s.ns c'.ab) := rfl
            show c2.wt.length + 2 * (d.s.ns - gc d.s.ns ab6) ≤ _
            rw [gc_congr t6]
            show c2.wt.length + 2 * (d.s.ns - gc d.s.ns (upd c2.ab R (some y))) ≤ _
            rw [HC.out.2.1.1.2.2.1, gc_mark hRn HR.out.2.2.2.1]
            have g4 : gc d.s.ns c'.ab + 1 ≤ d.s.ns := by
              have := gc_le (upd c'.ab R (some y)) d.s.ns
              rw [gc_mark hRn HR.out.2.2.2.1] at this
              exact this
            omega
          · rw [hq, HK5.out.2.2.2.1]
            exact Or.inl (Or.inr (Or.inr (Or.inl rfl)))
        clear hT t1 t2 t3 t5 t6 hE6 hM6 gmk hMR hMg
        go_wp2
        go_roundg m6
        case measure => exact HM6.out.2
        case rel => exact ⟨R', x2, { c2 with ab := ab6 }, rfl, HM6.out.1, HF.out⟩
end Euf
end Go.Proofs.Ytmnpefiaelpkfac
