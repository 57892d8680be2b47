/- Joined: EufR, EufS, EufK, EufE: words and contracts; no statement of the seat is proved here. -/
import Derived.Test.YtmnpefiaelpkfacJoin0Classes
import Derived.BigRegion
import Derived.RegionTactic
import Derived.DeepKeys4
import Derived.Deep.RegionLaw
/- The contract of rename; it proves no statement of the seat. -/
namespace Go.Proofs.Ytmnpefiaelpkfac
open Go.RowKit
set_option linter.unusedVariables false
namespace Euf

set_option maxRecDepth 20000 in
set_option maxHeartbeats 4000000 in
theorem rename_any (g : Nat) (x : Lx) (f : Fx) (m : Nat) (y : Ly) (s : Sx) (a b : Nat) (l : List Nat) (w : World) (h : CW w g x f m y s) (ha : a < s.ns) (hb : b < s.ns) (hab : a ≠ b) (hl : Ring s.ns s.S a l) (hz : (s.S a).size ≤ s.ns ∧ (s.S b).size ≤ s.ns) :
    Calls Try.prog 61 #[.pointer (some ⟨g, 0, none⟩), .int .i64 (a : Nat), .int .i64 (b : Nat)] w fun e w' => e = .returned (.tuple #[]) ∧
      CW w' g x f m y { s with S := renameS a b s.S } ∧ Mv (Ft g x y s.ns) w w' := by
  obtain ⟨gs, cap, hv, hc1, hc2⟩ := h.spotsAt ha
  have HV : Hid (y.vS = .slice (some ⟨gs, 0, none⟩) s.ns cap) := hv
  have hgs : Ft g x y s.ns gs := Or.inr (Or.inr (Or.inl (by rw [HV.out]; rfl)))
  obtain ⟨-, -, -, -, -, -, -, c7, -, -⟩ := h.cells
  rw [HV.out] at c7
  obtain ⟨-, -, -, -, s4, -, -⟩ := h.spot HV.out ha
  have HL : Hid (Ring s.ns s.S a l) := hl
  have HSZ : Hid (l.length = (s.S a).size) := hl.len
  have hsm := h.small
  have hgn := h.neS hv
  have HZ : Hid (wrap64 (((s.S b).size : Int) + ((s.S a).size : Int)) = (((s.S b).size + (s.S a).size : Nat) : Int)) := by
    show _ = _
    unfold wrap64; omega
  have hsa : (s.S a).size ≤ 100000000 := by omega
  clear hl hv hsm hz
  go_enter Try.func61, Try.ntmps61
  go_wp2
  go_loopw [6, 18] (fun v6 v18 wr => ∃ (p q : List Nat) (at_ : Nat), v6 = .int .i64 (at_ : Nat) ∧ v18 = .int .i64 (p.length : Nat) ∧ Hid (l = p ++ q ∧ Walk s.S at_ q a) ∧ CW wr g x f m y { s with S := tagS p b s.S } ∧ Mv (Ft g x y s.ns) w wr) (fun _ v _ => (s.S a).size - (intOf v).toNat)
  case atStart => exact ⟨[], l, a, rfl, rfl, ⟨rfl, HL.out.walk⟩, by have e : tagS [] b s.S = s.S := (by funext i; simp [tagS]); rw [e]; exact h, Mv.refl _ _⟩
  case round =>
    clear c7 s4 h
    obtain ⟨p, q, at_, rfl, rfl, HW, hC, hM⟩ := hrel
    obtain ⟨h1, h2⟩ := HW.out
    cases q with
    | nil =>
      have hp : p.length = (s.S a).size := by have := HSZ.out; rw [h1] at this; simpa using this
      have hlt : ¬ ((p.length : Int) < ((s.S a).size : Int)) := by omega
      have HP : Hid (l = p) := by show _ = _; rw [h1]; simp
      clear h1 h2 hp HW
      obtain ⟨-, -, -, -, -, -, -, c7, -, -⟩ := hC.cells
      rw [HV.out] at c7
      obtain ⟨-, a1, -, -, a4, a5, -⟩ := hC.spot HV.out ha
      obtain ⟨-, b1, -, -, b4, b5, -⟩ := hC.spot HV.out hb
      simp only [(tagS_rest p b s.S a).1, (tagS_rest p b s.S b).1] at a1 b1
      have q1 := hC.spotFrozen HV.out (a * 7 + 1)
      have q2 := hC.spotFrozen HV.out (b * 7 + 1)
      go_wp2
      go_quiet (fail)
      go_wp2
      go_region
      have hC1 := (hC.drewN (nq + 1)).setSpot (z := ((s.S b).next : Nat)) (S' := upd (tagS p b s.S) a { tagS p b s.S a with next := (s.S b).next }) HV.out ha (j := 1) (by omega) (by simp [spotC, upd]) (fun i hi => by simp [upd, hi]) (by simp [upd])
      have hC2 := hC1.setSpot (z := ((s.S a).next : Nat)) (S' := upd (upd (tagS p b s.S) a { tagS p b s.S a with next := (s.S b).next }) b { tagS p b s.S b with next := (s.S a).next }) HV.out hb (j := 1) (by omega) (by simp [spotC, upd, Ne.symm hab]) (fun i hi => by simp [upd, hi]) (by simp [upd, Ne.symm hab])
      have hM2 := ((hM.drewN (nq + 1)).set (a := ⟨gs, a * 7 + 1, none⟩) (Or.inl hgs) (.int .i64 ((s.S b).next : Nat))).set (a := ⟨gs, b * 7 + 1, none⟩) (Or.inl hgs) (.int .i64 ((s.S a).next : Nat))
      clear hC hM hC1 c7 a1 a4 a5 b1 b4 b5 q1 q2
      generalize (((wr.drewN (nq + 1)).setCell ⟨gs, a * 7 + 1, none⟩ (.int .i64 ((s.S b).next : Nat))).setCell ⟨gs, b * 7 + 1, none⟩ (.int .i64 ((s.S a).next : Nat))) = w2 at hC2 hM2 ⊢
      obtain ⟨-, -, -, -, a4, -, -⟩ := hC2.spot HV.out ha
      obtain ⟨-, -, -, -, b4, -, -⟩ := hC2.spot HV.out hb
      simp only [upd, hab, Ne.symm hab, if_true, if_false, (tagS_rest p b s.S a).2.2.2.1, (tagS_rest p b s.S b).2.2.2.1] at a4 b4
      have q4 := hC2.spotFrozen HV.out (b * 7 + 4)
      go_wp2
      go_region
      rw [HZ.out]
      have hC3 := (hC2.drew).setSpot (z := (((s.S b).size + (s.S a).size : Nat) : Int)) (S' := upd (upd (tagS p b s.S) a { tagS p b s.S a with next := (s.S b).next }) b { tagS p b s.S b with next := (s.S a).next, size := (s.S b).size + (s.S a).size }) HV.out hb (j := 4) (by omega) (by simp [spotC, upd]) (fun i hi => by simp [upd, hi]) (by simp [upd])
      have hM3 := (hM2.set (a := ⟨gs, b * 7 + 4, none⟩) (Or.inl hgs) (.int .i64 (((s.S b).size + (s.S a).size : Nat) : Int))).drew
      clear hC2 hM2 a4 b4 q4
      replace hC3 : CW (w2.setCell ⟨gs, b * 7 + 4, none⟩ (.int .i64 (((s.S b).size + (s.S a).size : Nat) : Int))).drew g x f m y _ := hC3.stay (fun _ _ => rfl)
      generalize (w2.setCell ⟨gs, b * 7 + 4, none⟩ (.int .i64 (((s.S b).size + (s.S a).size : Nat) : Int))).drew = w3 at hC3 hM3 ⊢
      obtain ⟨-, -, -, -, -, a5, -⟩ := hC3.spot HV.out ha
      obtain ⟨-, -, -, -, -, b5, -⟩ := hC3.spot HV.out hb
      simp only [upd, hab, Ne.symm hab, if_true, if_false, (tagS_rest p b s.S a).2.2.2.2.1, (tagS_rest p b s.S b).2.2.2.2.1] at a5 b5
      have q5 := hC3.spotFrozen HV.out (b * 7 + 5)
      go_wp2
      go_region
      obtain ⟨z9, hz9⟩ : ∃ z, z = (if (s.S b).least < (s.S a).least then (s.S b).least else (s.S a).least) := ⟨_, rfl⟩
      rw [← hz9]
      have HZ9 : Hid (z9 = (if (s.S b).least < (s.S a).least then (s.S b).least else (s.S a).least)) := hz9
      clear hz9
      have hC4 := (hC3.drew).setSpot (z := z9) (S' := upd (upd (tagS p b s.S) a { tagS p b s.S a with next := (s.S b).next }) b { tagS p b s.S b with next := (s.S a).next, size := (s.S b).size + (s.S a).size, least := z9 }) HV.out hb (j := 5) (by omega) (by simp [spotC, upd]) (fun i hi => by simp [upd, hi]) (by simp [upd])
      have hM4 := (hM3.set (a := ⟨gs, b * 7 + 5, none⟩) (Or.inl hgs) (.int .i64 z9)).drew
      go_wp2
      go_end0
      refine ⟨rfl, ?_, hM4⟩
      refine (CW.congr (hC4.stay (fun _ _ => rfl)) (S' := renameS a b s.S) (fun i hi => ?_)).stay (fun _ _ => rfl)
      have hmem := HL.out.mem i
      have hin : i ∈ p ↔ (s.S i).cls = a := by
        rw [← HP.out, hmem]; exact ⟨fun h => h.2, fun h => ⟨hi, h⟩⟩
      have hmin : z9 = min (s.S a).least (s.S b).least := by
        rw [HZ9.out]; split <;> omega
      rw [hmin]
      by_cases e1 : i = b
      · subst e1
        by_cases e2 : (s.S i).cls = a
        · have : i ∈ p := hin.2 e2
          simp [renameS, upd, tagS, this, e2, Ne.symm hab]
        · have : i ∉ p := fun h => e2 (hin.1 h)
          simp [renameS, upd, tagS, this, e2, Ne.symm hab]
      · by_cases e3 : i = a
        · subst e3
          by_cases e2 : (s.S i).cls = i
          · have : i ∈ p := hin.2 e2
            simp [renameS, upd, tagS, this, e2, hab]
          · have : i ∉ p := fun h => e2 (hin.1 h)
            simp [renameS, upd, tagS, this, e2, hab]
        · by_cases e2 : (s.S i).cls = a
          · have : i ∈ p := hin.2 e2
            simp [renameS, upd, tagS, this, e2, e1, e3]
          · have : i ∉ p := fun h => e2 (hin.1 h)
            simp [renameS, upd, tagS, this, e2, e1, e3]
    | cons z q =>
      obtain ⟨rfl, h3⟩ := h2
      have hlt : ((p.length : Int) < ((s.S a).size : Int)) := by have := HSZ.out; rw [h1] at this; simp at this; omega
      have hat : at_ < s.ns := ((HL.out.mem at_).1 (by rw [h1]; simp)).1
      have HP : Hid (l = (p ++ [at_]) ++ q) := by show _ = _; rw [h1]; simp
      have HW2 : Hid (Walk s.S (s.S at_).next q a) := h3
      clear h1 h3 HW
      obtain ⟨-, -, -, -, -, -, -, c7, -, -⟩ := hC.cells
      rw [HV.out] at c7
      obtain ⟨t0, t1, -, -, -, -, -⟩ := hC.spot HV.out hat
      simp only [(tagS_rest p b s.S at_).1] at t1
      have q0 := hC.spotFrozen HV.out (at_ * 7)
      have hC1 := hC.setSpot (z := (b : Nat)) (S' := upd (tagS p b s.S) at_ { tagS p b s.S at_ with cls := b }) HV.out hat (j := 0) (by omega) (by simp [spotC, upd]) (fun i hi => by simp [upd, hi]) (by simp [upd])
      rw [← tagS_snoc] at hC1
      go_wp2
      go_roundw
      case rel => exact ⟨p ++ [at_], q, _, rfl, by rw [List.length_append]; simp only [List.length_singleton]; go_num, ⟨HP.out, HW2.out⟩, hC1, hM.set (a := ⟨gs, at_ * 7, none⟩) (Or.inl hgs) _⟩
      case measure => simp [intOf]; omega
end Euf
end Go.Proofs.Ytmnpefiaelpkfac
/- Contracts of signature, weight and classOf; they prove no statement of the seat. -/
namespace Go.Proofs.Ytmnpefiaelpkfac
open Go.RowKit
set_option linter.unusedVariables false
namespace Euf

set_option maxRecDepth 20000 in
set_option maxHeartbeats 4000000 in
theorem signature_any (g : Nat) (x : Lx) (f : Fx) (m : Nat) (y : Ly) (s : Sx) (i fr ar : Nat) (w : World) (h : CW w g x f m y s) (hi : i < f.np) (h1 : (f.P i).front = (fr : Nat)) (h2 : (f.P i).arg = (ar : Nat)) (h3 : fr < s.ns) (h4 : ar < s.ns) :
    Calls Try.prog 60 #[.pointer (some ⟨g, 0, none⟩), .int .i64 (i : Nat)] w fun e w' => e = .returned (.agg #[.int .i64 ((s.S fr).cls : Nat), .int .i64 ((s.S ar).cls : Nat)]) ∧ Below w.heap.size w w' := by
  obtain ⟨gs, cap, hv, hc1, hc2⟩ := h.spotsAt h3
  obtain ⟨gp, capp, hp, hgp, p0, p1, p2⟩ := h.part hi
  obtain ⟨-, -, -, -, c4, -, -, c7, -, -⟩ := h.cells
  rw [hv] at c7
  rw [hp] at c4
  rw [h1] at p0
  rw [h2] at p1
  obtain ⟨f0, -, -, -, -, -, -⟩ := h.spot hv h3
  obtain ⟨a0, -, -, -, -, -, -⟩ := h.spot hv h4
  have hgs := h.ltS hv
  have hgl := h.lt
  clear h hv hp h1 h2
  go_enter Try.func60, Try.ntmps60
  go_wp2
  go_region
  go_wp2
  refine bodyPost_ret (v := .agg #[.int .i64 ((s.S fr).cls : Nat), .int .i64 ((s.S ar).cls : Nat)]) (by simp [results, Try.results60, go_sem]) rfl ?_
  exact ⟨rfl, by go_grown⟩

set_option maxRecDepth 20000 in
set_option maxHeartbeats 4000000 in
theorem weight_any (g : Nat) (x : Lx) (f : Fx) (m : Nat) (y : Ly) (s : Sx) (i : Nat) (w : World) (h : CW w g x f m y s) (hi : i < s.ns) (hz : (s.S i).size ≤ s.ns) (hu : (s.S i).uses.length ≤ 2 * s.ns) :
    Calls Try.prog 58 #[.pointer (some ⟨g, 0, none⟩), .int .i64 (i : Nat)] w fun e w' => e = .returned (.int .i64 ((s.S i).size + (s.S i).uses.length : Nat)) ∧ Below w.heap.size w w' := by
  obtain ⟨gs, cap, hv, hc1, hc2⟩ := h.spotsAt hi
  obtain ⟨-, -, -, -, -, -, -, c7, -, -⟩ := h.cells
  rw [hv] at c7
  obtain ⟨-, -, -, -, f4, -, f6⟩ := h.spot hv hi
  obtain ⟨au, ca, ha, -, -, -, -⟩ := (h.uses i hi).shape
  rw [ha] at f6
  have hsm := h.small
  clear h hv ha
  go_enter Try.func58, Try.ntmps58
  go_wp2
  go_quiet (fail)
  go_wp2
  go_ret
  exact ⟨by simp, ⟨rfl, rfl, rfl, Nat.le_refl _, fun _ _ => rfl⟩⟩

set_option maxRecDepth 20000 in
set_option maxHeartbeats 4000000 in
theorem classOf_any (g : Nat) (x : Lx) (f : Fx) (m : Nat) (y : Ly) (s : Sx) (i : Nat) (w : World) (h : CW w g x f m y s) (hi : i < f.nw) (hw : f.W i < s.ns) :
    Calls Try.prog 22 #[.pointer (some ⟨g, 0, none⟩), .int .i64 (i : Nat)] w fun e w' => e = .returned (.int .i64 ((s.S (f.W i)).cls : Nat)) ∧ Below w.heap.size w w' := by
  obtain ⟨gs, cap, hv, hc1, hc2⟩ := h.spotsAt hw
  obtain ⟨gp, capp, hp, hgp, p0⟩ := h.wholeAt hi
  obtain ⟨-, -, -, -, -, c5, -, c7, -, -⟩ := h.cells
  rw [hv] at c7
  rw [hp] at c5
  obtain ⟨f0, -, -, -, -, -, -⟩ := h.spot hv hw
  clear h hv hp
  go_enter Try.func22, Try.ntmps22
  go_wp2
  go_quiet (fail)
  go_wp2
  go_ret
  exact ⟨rfl, ⟨rfl, rfl, rfl, Nat.le_refl _, fun _ _ => rfl⟩⟩
end Euf
end Go.Proofs.Ytmnpefiaelpkfac
/- Keys that are pairs of ints; no statement of the seat is proved here. -/
namespace Go.Proofs.Ytmnpefiaelpkfac
open Go.RowKit
set_option linter.unusedVariables false
namespace Euf
theorem laidOut : laidOutB Try.prog = true := by kernel_rfl
theorem uPair : Try.prog.underlying 51 = some (.array 2 3) := by kernel_rfl
theorem uInt : Try.prog.underlying 3 = some (.int .i64) := by kernel_rfl
theorem uSig : Try.prog.underlying 65 = some (.map 51 3) := by kernel_rfl
theorem cPair : Try.prog.cellsOf 51 = 2 := by kernel_rfl
theorem cInt : Try.prog.cellsOf 3 = 1 := by kernel_rfl
theorem lawPair : Maps.Keyed Try.prog 51 := Maps.Keyed.of_law (deep_law_laid laidOut (m := 2) (by omega) (of_decide_eq_true (by kernel_rfl)) (by kernel_rfl) (by rw [uPair]))
theorem zInt (w : World) : (zeroValue 3).run Try.prog w = .ok (.int .i64 0) w := by kernel_rfl
theorem tsz : ∃ n, Try.prog.types.size = n + 1 := ⟨Try.prog.types.size - 1, by have : 0 < Try.prog.types.size := of_decide_eq_true (by kernel_rfl); omega⟩
theorem keyPair {a b : Int} (ha : (Lit.int .i64 a).wf = true) (hb : (Lit.int .i64 b).wf = true) : ∃ kl, keyOf Try.prog 51 (.agg #[.int .i64 a, .int .i64 b]) = some kl := by
  obtain ⟨n, hn⟩ := tsz
  have h1 : Try.prog.keyType 51 = true := by kernel_rfl
  have h2 : (Value.agg #[.int .i64 a, .int .i64 b]).formed Try.prog 51 = true := by simp [Value.formed, cPair]
  have h3 : Try.prog.keyLits (Try.prog.types.size + 1) 51 [.int .i64 a, .int .i64 b] = some [.int .i64 a, .int .i64 b] := by
    rw [hn]
    simp [Program.keyLits, cPair, cInt, ha, hb, List.range_succ]
  unfold keyOf
  rw [uPair]
  simp only [h1, h2, Bool.and_true, if_true]
  exact ⟨_, by rw [show (Value.agg #[.int .i64 a, .int .i64 b]).cells.toList = [.int .i64 a, .int .i64 b] from rfl, h3]; rfl⟩
theorem wfNat {n : Nat} (h : n ≤ 9223372036854775807) : (Lit.int .i64 (n : Int)).wf = true := WalkArith.wf_i64 (by omega)
end Euf
end Go.Proofs.Ytmnpefiaelpkfac
/- The contract of enrol; it proves no statement of the seat. -/
namespace Go.Proofs.Ytmnpefiaelpkfac
open Go.RowKit
set_option linter.unusedVariables false
namespace Euf
/-- The graph's block has one cell written: that of the claims. -/
theorem CW.setClaims {w : World} {g : Nat} {x : Lx} {f : Fx} {m : Nat} {y : Ly} {s : Sx} (h : CW w g x f m y s) {w1 : World} {v : Value} {cl' : List Claim} (hap : App y.vC v w w1) (hol : OL 3 91 w1 v cl'.length (fun i => claimC (cl'.getD i noClaim))) :
    CW (w1.setCell ⟨g, 9, none⟩ v) g x f m { y with vC := v } { s with cl := cl' } ∧ Mv (Ft g x y s.ns) w (w1.setCell ⟨g, 9, none⟩ v) ∧ (∀ b, Ft g x { y with vC := v } s.ns b → Ft g x y s.ns b ∨ w.heap.size ≤ b) := by
  have keep : ∀ b, b < w.heap.size → y.vC.ownBlock ≠ some b → b ≠ g → (w1.setCell ⟨g, 9, none⟩ v).heap[b]? = w.heap[b]? := fun b hb h1 h2 => (heap_setCell_other w1 ⟨g, 9, none⟩ b v h2).trans (hap.other b hb h1)
  have hg : w1.heap[g]? = _ := (hap.other g h.lt (h.claims.neB h.blk (by decide))).trans h.blk
  have hlt : g < w1.heap.size := (Array.getElem?_eq_some_iff.1 hg).1
  have other : ∀ {sz : Nat} {e : TypeId} {v' : Value} {n : Nat} {f' : Nat → List Value}, OL sz e w v' n f' → e ≠ 91 → e ≠ 73 → OL sz e (w1.setCell ⟨g, 9, none⟩ v) v' n f' := by
    intro sz e v' n f' ho h1 h2
    refine ho.stay fun b hb => keep b (ho.lt hb) (fun hc => ho.ne h.claims h1 hb hc) (fun e' => ho.neB h.blk h2 (by rw [hb, e']))
  refine ⟨{ blk := ?_, parts := other h.parts (by decide) (by decide), whole := other h.whole (by decide) (by decide), eqs := other h.eqs (by decide) (by decide), spots := other h.spots (by decide) (by decide), uses := fun i hi => other (h.uses i hi) (by decide) (by decide), claims := ?_, sig := ?_, apart := h.apart, apartW := h.apartW, small := h.small }, ?_, ?_⟩
  · exact (heap_setCell_same w1 g 9 _ 73 v hg).trans rfl
  · exact hol.stay fun b hb => heap_setCell_other w1 ⟨g, 9, none⟩ b v (fun e' => hol.neB hg (by decide) (by rw [hb, e']))
  · exact h.sig.stay (keep _ h.sig.lt (fun hc => h.claims.neM h.sig hc) (fun e' => by
      obtain ⟨es, cl, he⟩ := h.sig.isMap
      rw [e', h.blk] at he
      cases he))
  · refine ⟨hap.os, hap.tape, hap.output, by simp; exact hap.size, fun b hb hn => keep b hb (fun hc => hn (Or.inr (Or.inr (Or.inr (Or.inl hc))))) (fun e' => hn (Or.inl e'))⟩
  · rintro b (h1 | h1 | h1 | h1 | h1)
    · exact Or.inl (Or.inl h1)
    · exact Or.inl (Or.inr (Or.inl h1))
    · exact Or.inl (Or.inr (Or.inr (Or.inl h1)))
    · rcases hap.at_ with h2 | ⟨b', h2, h3⟩
      · exact Or.inl (Or.inr (Or.inr (Or.inr (Or.inl (h2.symm.trans h1)))))
      · have : b' = b := by
          have := h2.symm.trans h1
          injection this
        subst this; exact Or.inr h3
    · exact Or.inl (Or.inr (Or.inr (Or.inr (Or.inr h1))))
/-- The uses of a part are another list. -/
theorem CW.setUses {w : World} {g : Nat} {x : Lx} {f : Fx} {m : Nat} {y : Ly} {s : Sx} (h : CW w g x f m y s) {gs cap i : Nat} (hv : y.vS = .slice (some ⟨gs, 0, none⟩) s.ns cap) (hi : i < s.ns) {w1 : World} {v : Value} {l' : List Nat}
    (hos : w1.os = w.os) (htp : w1.tape = w.tape) (hout : w1.output = w.output) (hsz : w.heap.size ≤ w1.heap.size) (hother : ∀ b, b < w.heap.size → (y.au i).ownBlock ≠ some b → w1.heap[b]? = w.heap[b]?) (hat : ∀ b, v.ownBlock = some b → (y.au i).ownBlock = some b ∨ w.heap.size ≤ b) (hol : OL 1 3 w1 v l'.length (natC l')) :
    CW (w1.setCell ⟨gs, i * 7 + 6, none⟩ v) g x f m { y with au := upd y.au i v } { s with S := upd s.S i { s.S i with uses := l' } } ∧ Mv (Ft g x y s.ns) w (w1.setCell ⟨gs, i * 7 + 6, none⟩ v) ∧ (∀ b, Ft g x { y with au := upd y.au i v } s.ns b → Ft g x y s.ns b ∨ w.heap.size ≤ b) := by
  have hs := h.spots
  rw [hv] at hs
  have hui := h.uses i hi
  have hgl : gs < w.heap.size := h.ltS hv
  obtain ⟨cs, hcs⟩ := hs.elem (b := gs) rfl
  have hcs1 : w1.heap[gs]? = some (.cells cs 86 (0, 0)) := (hother gs hgl (fun hc => hui.neB hcs (by decide) hc)).trans hcs
  have keep : ∀ b, b < w.heap.size → (y.au i).ownBlock ≠ some b → b ≠ gs → (w1.setCell ⟨gs, i * 7 + 6, none⟩ v).heap[b]? = w.heap[b]? := fun b hb h1 h2 => (heap_setCell_other w1 ⟨gs, i * 7 + 6, none⟩ b v h2).trans (hother b hb h1)
  have other : ∀ {sz : Nat} {e : TypeId} {v' : Value} {n : Nat} {f' : Nat → List Value}, OL sz e w v' n f' → e ≠ 3 → e ≠ 86 → OL sz e (w1.setCell ⟨gs, i * 7 + 6, none⟩ v) v' n f' := by
    intro sz e v' n f' ho h1 h2
    refine ho.stay fun b hb => keep b (ho.lt hb) (fun hc => ho.ne hui h1 hb hc) (fun e' => ho.neB hcs h2 (by rw [hb, e']))
  have otherI : ∀ {v' : Value} {n : Nat} {f' : Nat → List Value}, OL 1 3 w v' n f' → (∀ b, (y.au i).ownBlock = some b → v'.ownBlock ≠ some b) → OL 1 3 (w1.setCell ⟨gs, i * 7 + 6, none⟩ v) v' n f' := by
    intro v' n f' ho h1
    refine ho.stay fun b hb => keep b (ho.lt hb) (fun hc => h1 b hc hb) (fun e' => ho.neB hcs (by decide) (by rw [hb, e']))
  refine ⟨{ blk := ?_, parts := other h.parts (by decide) (by decide), whole := otherI h.whole (fun b hb => h.apartW i hi b hb), eqs := other h.eqs (by decide) (by decide), spots := ?_, uses := ?_, claims := other h.claims (by decide) (by decide), sig := ?_, apart := ?_, apartW := ?_, small := h.small }, ?_, ?_⟩
  · exact (keep g h.lt (fun hc => hui.neB h.blk (by decide) hc) (h.neS hv)).trans h.blk
  · have hs1 : OL 7 86 w1 (.slice (some ⟨gs, 0, none⟩) s.ns cap) s.ns (spotC s.S y.au) := hs.stay fun b hb => by
      have : gs = b := by simpa [Value.ownBlock] using hb
      subst this; exact hcs1.trans hcs.symm
    show OL 7 86 _ y.vS s.ns _
    rw [hv]
    refine hs1.set hi (j := 6) (by omega) v (fun k _ => spotC_len _ _ k) ?_ (fun k _ hk => ?_)
    · simp [spotC, upd]
    · simp [spotC, upd, hk]
  · intro k hk
    by_cases e : k = i
    · subst e
      show OL 1 3 _ (upd y.au k v k) (upd s.S k { s.S k with uses := l' } k).uses.length (natC (upd s.S k { s.S k with uses := l' } k).uses)
      rw [upd_same, upd_same]
      exact hol.stay fun b hb => heap_setCell_other w1 ⟨gs, k * 7 + 6, none⟩ b v (fun e' => hol.neB hcs1 (by decide) (by rw [hb, e']))
    · show OL 1 3 _ (upd y.au i v k) (upd s.S i { s.S i with uses := l' } k).uses.length (natC (upd s.S i { s.S i with uses := l' } k).uses)
      rw [upd_other _ _ e, upd_other _ _ e]
      exact otherI (h.uses k hk) (fun b hb => h.apart i k hi hk (Ne.symm e) b hb)
  · exact h.sig.stay (keep _ h.sig.lt (fun hc => hui.neM h.sig hc) (fun e' => by
      obtain ⟨es, cl, he⟩ := h.sig.isMap
      rw [e', hcs] at he
      cases he))
  · intro k j hk hj hkj b hb
    show (upd y.au i v j).ownBlock ≠ some b
    replace hb : (upd y.au i v k).ownBlock = some b := hb
    by_cases e1 : k = i
    · subst e1
      rw [upd_same] at hb
      rw [upd_other _ _ (Ne.symm hkj)]
      rcases hat b hb with h1 | h1
      · exact h.apart k j hk hj hkj b h1
      · intro h2; have := (h.uses j hj).lt h2; omega
    · rw [upd_other _ _ e1] at hb
      by_cases e2 : j = i
      · subst e2
        rw [upd_same]
        intro h2
        rcases hat b h2 with h1 | h1
        · exact h.apart k j hk hj hkj b hb h1
        · have := (h.uses k hk).lt hb; omega
      · rw [upd_other _ _ e2]
        exact h.apart k j hk hj hkj b hb
  · intro k hk b hb
    replace hb : (upd y.au i v k).ownBlock = some b := hb
    by_cases e1 : k = i
    · subst e1
      rw [upd_same] at hb
      rcases hat b hb with h1 | h1
      · exact h.apartW k hk b h1
      · intro h2; have := h.whole.lt h2; omega
    · rw [upd_other _ _ e1] at hb
      exact h.apartW k hk b hb
  · refine ⟨hos, htp, hout, by simp; exact hsz, fun b hb hn => keep b hb (fun hc => hn (Or.inr (Or.inr (Or.inr (Or.inr ⟨i, hi, hc⟩))))) (fun e' => hn (Or.inr (Or.inr (Or.inl (by rw [hv, e']; rfl)))))⟩
  · rintro b (h1 | h1 | h1 | h1 | ⟨k, hk, h1⟩)
    · exact Or.inl (Or.inl h1)
    · exact Or.inl (Or.inr (Or.inl h1))
    · exact Or.inl (Or.inr (Or.inr (Or.inl h1)))
    · exact Or.inl (Or.inr (Or.inr (Or.inr (Or.inl h1))))
    · replace h1 : (upd y.au i v k).ownBlock = some b := h1
      by_cases e1 : k = i
      · subst e1
        rw [upd_same] at h1
        rcases hat b h1 with h2 | h2
        · exact Or.inl (Or.inr (Or.inr (Or.inr (Or.inr ⟨k, hk, h2⟩))))
        · exact Or.inr h2
      · rw [upd_other _ _ e1] at h1
        exact Or.inl (Or.inr (Or.inr (Or.inr (Or.inr ⟨k, hk, h1⟩))))
theorem uInts : Try.prog.underlying 31 = some (.slice 3) := by kernel_rfl
theorem iInt : (Try.prog.info? 3).map (fun i => (i.zero, i.size, i.bytes)) = some (some (.int .i64 0), 1, 8) := by kernel_rfl
theorem flat_one (l : List Nat) : ∀ n, ∀ u ∈ flat (natC l) n, u.oneCell' = true
  | 0, u, h => by cases h
  | n + 1, u, h => by
    rw [flat] at h
    rcases List.mem_append.1 h with h | h
    · exact flat_one l n u h
    · simp [natC] at h; subst h; rfl
/-- The signatures' map is written. -/
theorem CW.setSig {w w1 : World} {g : Nat} {x : Lx} {f : Fx} {m : Nat} {y : Ly} {s : Sx} (h : CW w g x f m y s) {sg' : Nat × Nat → Option Nat} (ht : w.mapTurned w1 x.bG) (hm : MapF Try.prog 51 3 w1 x.bG s.ns (sgF sg')) :
    CW w1 g x f m y { s with sg := sg' } ∧ Mv (Ft g x y s.ns) w w1 := by
  have hg := ht.grown
  have keep : ∀ b, b < w.heap.size → b ≠ x.bG → w1.heap[b]? = w.heap[b]? := fun b hb hn => hg.block b hb (by simp [hn])
  obtain ⟨es, cl, he⟩ := h.sig.isMap
  have other : ∀ {sz : Nat} {e : TypeId} {v' : Value} {n : Nat} {f' : Nat → List Value}, OL sz e w v' n f' → OL sz e w1 v' n f' := by
    intro sz e v' n f' ho
    exact ho.stay fun b hb => keep b (ho.lt hb) (fun e' => ho.neM h.sig (by rw [hb, e']))
  refine ⟨{ blk := (keep _ h.lt (fun e' => by have := h.blk; rw [e', he] at this; cases this)).trans h.blk, parts := other h.parts, whole := other h.whole, eqs := other h.eqs, spots := other h.spots, uses := fun i hi => other (h.uses i hi), claims := other h.claims, sig := hm, apart := h.apart, apartW := h.apartW, small := h.small }, ⟨hg.os, hg.tape, hg.output, hg.size, fun b hb hn => keep b hb (fun e' => hn (Or.inr (Or.inl e')))⟩⟩
theorem uClaims : Try.prog.underlying 71 = some (.slice 91) := by kernel_rfl
theorem iClaim : (Try.prog.info? 91).map (fun i => (i.zero, i.size, i.bytes)) = some (some (.agg #[.int .i64 0, .int .i64 0, .int .i64 0]), 3, 24) := by kernel_rfl

set_option maxRecDepth 20000 in
set_option maxHeartbeats 4000000 in
theorem enrol_any (g : Nat) (x : Lx) (f : Fx) (m : Nat) (y : Ly) (s : Sx) (i fr ar : Nat) (w : World) (h : CW w g x f m y s) (hi : i < s.ns) (h1 : (f.P i).front = (fr : Nat)) (h2 : (f.P i).arg = (ar : Nat)) (h3 : fr < s.ns) (h4 : ar < s.ns)
    (hk : (s.S fr).cls < s.ns ∧ (s.S ar).cls < s.ns) (hs1 : ∀ k q, s.sg k = some q → q < s.ns ∧ sig f.P s.S q = k) (hcl : s.cl.length ≤ 500000000) :
    Calls Try.prog 57 #[.pointer (some ⟨g, 0, none⟩), .int .i64 (i : Nat)] w fun e w' => e = .returned (.tuple #[]) ∧
      ∃ y', CW w' g x f m y' { s with sg := (enrolS f.P s.S s.sg s.cl i).1, cl := (enrolS f.P s.S s.sg s.cl i).2 } ∧ y'.vS = y.vS ∧ y'.au = y.au ∧ Mv (Ft g x y s.ns) w w' ∧ (∀ b, Ft g x y' s.ns b → Ft g x y s.ns b ∨ w.heap.size ≤ b) := by
  have hsm := h.small
  have HI : Hid (i < f.np) := by show _ < _; omega
  have HSG : Hid (sig f.P s.S i = ((s.S fr).cls, (s.S ar).cls)) := by show _ = _; simp [sig, h1, h2]
  have H12 : Hid ((f.P i).front = (fr : Nat) ∧ (f.P i).arg = (ar : Nat)) := ⟨h1, h2⟩
  have HS1 : Hid (∀ k q, s.sg k = some q → q < s.ns ∧ sig f.P s.S q = k) := hs1
  obtain ⟨kl, hkl⟩ := keyPair (a := ((s.S fr).cls : Nat)) (b := ((s.S ar).cls : Nat)) (wfNat (by omega)) (wfNat (by omega))
  have HKL : Hid (keyOf Try.prog 51 (.agg #[.int .i64 ((s.S fr).cls : Nat), .int .i64 ((s.S ar).cls : Nat)]) = some kl) := hkl
  clear h1 h2 hs1 hkl
  go_enter Try.func57, Try.ntmps57
  go_wp2_with fail
  refine (signature_any g x f m y s i fr ar w h HI.out H12.out.1 H12.out.2 h3 h4).mono ?_
  rintro e w1 ⟨rfl, hb⟩
  have hC := h.below hb
  have hM : Mv (Ft g x y s.ns) w w1 := Mv.below hb
  have hltw : w.heap.size ≤ w1.heap.size := hb.size
  clear h hb
  have hC2 := hC.alloc (.cells #[.int .i64 ((s.S fr).cls : Nat), .int .i64 ((s.S ar).cls : Nat)] 51 (0, 0))
  have hM2 := hM.alloc (.cells #[.int .i64 ((s.S fr).cls : Nat), .int .i64 ((s.S ar).cls : Nat)] 51 (0, 0))
  have kb : (w1.alloc (.cells #[.int .i64 ((s.S fr).cls : Nat), .int .i64 ((s.S ar).cls : Nat)] 51 (0, 0))).heap[w1.heap.size]? = _ := heap_alloc_new w1 _
  clear hC hM
  go_wp2
  generalize (w1.alloc (.cells #[.int .i64 ((s.S fr).cls : Nat), .int .i64 ((s.S ar).cls : Nat)] 51 (0, 0))) = w2 at hC2 hM2 kb ⊢
  have d0 : w2.cell? ⟨w1.heap.size, 0, none⟩ = some (.int .i64 ((s.S fr).cls : Nat)) := cell_of_row _ w1.heap.size 0 _ 51 (0, 0) kb
  have d1 : w2.cell? ⟨w1.heap.size, 1, none⟩ = some (.int .i64 ((s.S ar).cls : Nat)) := cell_of_row _ w1.heap.size 1 _ 51 (0, 0) kb
  obtain ⟨-, -, -, -, -, -, -, -, c8, c9⟩ := hC2.cells
  have hgl := hC2.lt
  have q9 := hC2.frozen 9
  have hlook : ∀ n, (Instr.lookup 65 (.map (some x.bG)) (.agg #[.int .i64 ((s.S fr).cls : Nat), .int .i64 ((s.S ar).cls : Nat)]) true).run Try.prog (w2.drewN n) = .ok (.tuple #[.int .i64 ((sgF s.sg (.agg #[.int .i64 ((s.S fr).cls : Nat), .int .i64 ((s.S ar).cls : Nat)])).getD 0), .bool (sgF s.sg (.agg #[.int .i64 ((s.S fr).cls : Nat), .int .i64 ((s.S ar).cls : Nat)])).isSome]) (w2.drewN n) := fun n => ((hC2.drewN n).sig).look lawPair uSig uInt (zInt _) HKL.out
  simp only [sgF_at] at hlook
  cases hsg : s.sg ((s.S fr).cls, (s.S ar).cls) with
  | some q =>
    rw [hsg] at hlook
    simp only [Option.map_some, Option.getD_some, Option.isSome_some, Int.ofNat_eq_natCast] at hlook
    have HQ : Hid (enrolS f.P s.S s.sg s.cl i = (s.sg, s.cl ++ [⟨i, q, -1⟩])) := by show _ = _; unfold enrolS; rw [HSG.out, hsg]
    clear hsg
    go_quiet (fail)
    have hC3 := hC2.drewN nq
    have hM3 := hM2.drewN nq
    have hgl3 : g < (w2.drewN nq).heap.size := hgl
    have c93 : (w2.drewN nq).cell? ⟨g, 9, none⟩ = some y.vC := c9
    clear hC2 hM2 hlook c8 c9 q9 d0 d1 kb hgl
    generalize w2.drewN nq = w3 at hC3 hM3 hgl3 c93 ⊢
    have hC4 := hC3.alloc (.cells #[.int .i64 (i : Nat), .int .i64 (q : Nat), .int .i64 (-1)] 91 (0, 0))
    have hblk := hC3.claims
    go_wp2_with (at_builtin; refine Stop.of ?_)
    show wpList _ _ _ _ _ _
    refine wpList_push rfl (.tmp 24) (.tmp 28) 71 rfl 3 91 _ 24 uClaims iClaim (by decide) rfl (by decide) y.vC s.cl.length _ rfl [.int .i64 (i : Nat), .int .i64 (q : Nat), .int .i64 (-1)] 91 hC4.claims (fun _ _ => rfl) 1 rfl rfl (by intro u hu; simp at hu; rcases hu with rfl | rfl | rfl <;> rfl) (by omega) (fun k => claimC ((s.cl ++ [(⟨i, q, -1⟩ : Claim)]).getD k noClaim)) (fun k hk => by show claimC _ = claimC _; rw [List.getD_eq_getElem?_getD, List.getElem?_append_left hk, ← List.getD_eq_getElem?_getD]) (by show claimC _ = _; rw [List.getD_eq_getElem?_getD, List.getElem?_append_right (Nat.le_refl _)]; simp [claimC]) ?_
    intro v' w4 hol hap hne
    replace hap := hap.of_alloc (fun b hb => hblk.lt hb)
    have hol2 : OL 3 91 w4 v' (s.cl ++ [(⟨i, q, -1⟩ : Claim)]).length (fun k => claimC ((s.cl ++ [(⟨i, q, -1⟩ : Claim)]).getD k noClaim)) := by rw [List.length_append]; exact hol
    obtain ⟨k1, k2, k3⟩ := hC3.setClaims hap hol2
    have hg4 : w4.heap[g]? = _ := (hap.other g hC3.lt (hC3.claims.neB hC3.blk (by decide))).trans hC3.blk
    have c94 : w4.cell? ⟨g, 9, none⟩ = some y.vC := cell_of_row w4 g 9 _ 73 (0, 0) hg4
    have q94 : w4.frozen? ⟨g, 9, none⟩ = false := frozen_of_row w4 g 9 _ 73 hg4
    obtain ⟨ao, cc, hv', -, -, -, -⟩ := hol.shape
    subst hv'
    clear hg4 hol hol2 hap hC4 hblk hC3 c93
    go_wp2
    refine bodyPost_ret (v := .tuple #[]) (by simp [results, Try.results57, go_sem]) rfl ?_
    refine ⟨rfl, { y with vC := .slice ao (s.cl.length + 1) cc }, ?_, ?_, ?_, hM3.trans k2 (fun b hb => Or.inl hb), fun b hb => ?_⟩
    · rw [HQ.out]; exact k1
    · rfl
    · rfl
    · rcases k3 b hb with h9 | h9
      · exact Or.inl h9
      · exact Or.inr (Nat.le_trans hM3.size h9)
  | none =>
    rw [hsg] at hlook
    simp only [Option.map_none, Option.getD_none, Option.isSome_none] at hlook
    have HQ : Hid (enrolS f.P s.S s.sg s.cl i = (fun k => if k = sig f.P s.S i then some i else s.sg k, s.cl)) := by show _ = _; unfold enrolS; rw [HSG.out, hsg]
    clear hsg
    go_quiet (fail)
    go_wp2
    have hC3 := hC2.drewN nq
    have hM3 := hM2.drewN nq
    have c83 : (w2.drewN nq).cell? ⟨g, 8, none⟩ = some (.map (some x.bG)) := c8
    have d03 : (w2.drewN nq).cell? ⟨w1.heap.size, 0, none⟩ = some (.int .i64 ((s.S fr).cls : Nat)) := d0
    have d13 : (w2.drewN nq).cell? ⟨w1.heap.size, 1, none⟩ = some (.int .i64 ((s.S ar).cls : Nat)) := d1
    clear hC2 hM2 hlook c8 c9 q9 d0 d1 kb hgl
    generalize w2.drewN nq = w3 at hC3 hM3 c83 d03 d13 ⊢
    obtain ⟨w5, hrun, hmap, hturn⟩ := (hC3.drew.sig).put lawPair uSig uInt (by unfold maxLen; omega) HKL.out (x := (i : Nat)) (wfNat (by omega)) (sgF (fun k => if k = sig f.P s.S i then some i else s.sg k)) (by rw [sgF_at, HSG.out]; simp) (sgF_other (fun k hk => by rw [HSG.out]; simp [hk]))
    have hmap2 := hmap.sgTight lawPair s.ns (sig f.P s.S) (fun k q hq => by
      by_cases e : k = sig f.P s.S i
      · simp [e] at hq; subst hq; exact ⟨hi, e.symm⟩
      · simp [e] at hq; exact HS1.out k q hq)
    obtain ⟨k1, k2⟩ := hC3.drew.setSig hturn hmap2
    go_region
    go_wp2
    go_end0
    refine ⟨rfl, y, ?_, rfl, rfl, (hM3.drew).trans k2 (fun b hb => Or.inl hb), fun b hb => Or.inl hb⟩
    rw [HQ.out]; exact k1
end Euf
end Go.Proofs.Ytmnpefiaelpkfac
