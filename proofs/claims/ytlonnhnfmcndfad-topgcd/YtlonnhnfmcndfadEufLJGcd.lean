/- The contract of add; it proves no statement of the seat. -/
import Derived.Test.YtlonnhnfmcndfadEufFJGcd
namespace Go.Proofs.Ytlonnhnfmcndfad
open Go.RowKit
set_option linter.unusedVariables false
namespace Euf
theorem GT.setNode {w : World} {g : Nat} {D : Gd} (h : GT w g D) {gp cap i : Nat} {z : Int} (hv : D.x.vP = .slice (some ⟨gp, 0, none⟩) D.f.np cap) (hi : i < D.f.np) : GT (w.setCell ⟨gp, i * 3 + 2, none⟩ (.int .i64 z)) g { D with f := { D.f with P := upd D.f.P i { D.f.P i with node := z } } } := by
  have key : ∀ b, b ≠ gp → (w.setCell ⟨gp, i * 3 + 2, none⟩ (.int .i64 z)).heap[b]? = w.heap[b]? := fun b hb => heap_setCell_other w ⟨gp, i * 3 + 2, none⟩ b _ hb
  refine ⟨h.cw.setPart hv hi, h.c2, h.c3, h.heads.stay (key _ ?_), h.pairs.stay (key _ ?_), h.mne⟩
  · intro e; exact h.cw.parts.neM h.heads (by rw [hv, e]; rfl)
  · intro e; exact h.cw.parts.neM h.pairs (by rw [hv, e]; rfl)
theorem GT.pushWhole {w w1 : World} {g : Nat} {D : Gd} (h : GT w g D) (p : Nat) {v : Value} (hap : App D.x.vW v w w1) (hol : OL 1 3 w1 v (D.f.nw + 1) (fun i => [.int .i64 (upd D.f.W D.f.nw p i : Nat)])) :
    GT (w1.setCell ⟨g, 5, none⟩ v) g { D with x := { D.x with vW := v }, f := { D.f with nw := D.f.nw + 1, W := upd D.f.W D.f.nw p } } ∧ Mv (fun b => b = g ∨ D.x.vW.ownBlock = some b) w (w1.setCell ⟨g, 5, none⟩ v) := by
  obtain ⟨k1, k2⟩ := h.cw.pushWhole p hap hol
  have ng : ∀ {b : Nat}, (∃ es cl, w.heap[b]? = some (.map es cl)) → b ≠ g := by
    rintro b ⟨es, cl, he⟩ e
    have := h.cw.blk; rw [← e, he] at this; cases this
  refine ⟨⟨k1, h.c2, h.c3, h.heads.stay (k2.other _ h.heads.lt ?_), h.pairs.stay (k2.other _ h.pairs.lt ?_), h.mne⟩, k2⟩
  · rintro (e | e)
    · exact ng h.heads.isMap e
    · exact h.cw.whole.neM h.heads e
  · rintro (e | e)
    · exact ng h.pairs.isMap e
    · exact h.cw.whole.neM h.pairs e

set_option maxRecDepth 20000 in
set_option maxHeartbeats 8000000 in
theorem add_any (g : Nat) (d : Gd) (s : ByteArray) (l : List Nat) (ao : Option Addr) (cap : Nat) (w : World) (h : GT w g d) (ht : TOk d.f d.t none) (hs : s.size ≤ maxLen) (hl : l.length ≤ 10000) (hv : Seg .i64 w ao l) (hap : ∀ b off, ao = some ⟨b, off, none⟩ → ¬ Fa g d b) (hin : ∀ b ∈ l, b < d.t.nn) (hno : ∀ a, a < d.t.nn → d.t.N a ≠ (s, l)) (hnp : d.f.np + l.length + 1 ≤ 10000) (hnn : d.t.nn ≤ 20000) :
    Calls Try.prog 27 #[.pointer (some ⟨g, 2, none⟩), .string s, .slice ao l.length cap] w fun e w' => e = .returned (.int .i64 (d.t.nn : Nat)) ∧ AddEnd g d s l w w' := by
  have HT : Hid (TOk d.f d.t none ∧ TOk d.f d.t (some (s, l.length, l))) := ⟨ht, ht.open s l hno⟩
  have HIN : Hid (∀ b ∈ l, b < d.t.nn) := hin
  have HNO : Hid (∀ a, a < d.t.nn → d.t.N a ≠ (s, l)) := hno
  have HSEG : Hid (Seg .i64 w ao l) := hv
  have HAP : Hid (∀ b off, ao = some ⟨b, off, none⟩ → ¬ Fa g d b) := hap
  have HS : Hid (s.size ≤ maxLen) := hs
  have HNP : Hid (d.f.np + l.length + 1 ≤ 10000) := hnp
  obtain ⟨kl, hkl⟩ := keyHead (n := l.length) hs (by omega)
  have h1 := h.stay (w' := w.alloc (.cells #[.string s, .int .i64 (l.length : Nat)] 108 (0, 0))) (fun b hlt => Below.heap_alloc w _ b hlt)
  have kb : (w.alloc (.cells #[.string s, .int .i64 (l.length : Nat)] 108 (0, 0))).heap[w.heap.size]? = _ := heap_alloc_new w _
  have hM1 : Mv (Fa g d) w (w.alloc (.cells #[.string s, .int .i64 (l.length : Nat)] 108 (0, 0))) := (Mv.refl _ w).alloc _
  have HL0 : Hid (∀ b, (b = g ∨ d.x.vP.ownBlock = some b) → b ≠ w.heap.size) := by
    rintro b (e | e) e'
    · have := h.cw.lt; omega
    · have := h.cw.parts.lt e; omega
  clear h ht hin hno hv hap hs hnp
  go_enter Try.func27, Try.ntmps27
  go_upto_region 2 with fail
  obtain ⟨bx, hbx⟩ : ∃ bx, bx = w.heap.size := ⟨_, rfl⟩
  rw [← hbx] at kb HL0 ⊢
  have HBX : Hid (bx = w.heap.size) := hbx
  clear hbx
  generalize (w.alloc (.cells #[.string s, .int .i64 (l.length : Nat)] 108 (0, 0))) = w1 at h1 kb hM1 ⊢
  have d0 : w1.cell? ⟨bx, 0, none⟩ = some (.string s) := cell_of_row _ bx 0 _ 108 (0, 0) kb
  have d1 : w1.cell? ⟨bx, 1, none⟩ = some (.int .i64 (l.length : Nat)) := cell_of_row _ bx 1 _ 108 (0, 0) kb
  obtain ⟨-, -, c2, -, -, -, -, -, -, -⟩ := h1.cw.cells
  rw [h1.c2] at c2
  have hlook : ∀ n, (Instr.lookup 63 (.map (some d.bH)) (.agg #[.string s, .int .i64 (l.length : Nat)]) true).run Try.prog (w1.drewN n) = .ok (.tuple #[.int .i64 ((hdF d.t.hd (.agg #[.string s, .int .i64 (l.length : Nat)])).getD 0), .bool (hdF d.t.hd (.agg #[.string s, .int .i64 (l.length : Nat)])).isSome]) (w1.drewN n) := fun n => (h1.heads.stay (w' := w1.drewN n) rfl).look lawHead uHead uInt (zInt _) hkl
  simp only [hdF_at] at hlook
  obtain ⟨at0, hat0⟩ : ∃ at0, at0 = (d.t.hd (s, l.length)).getD 0 := ⟨_, rfl⟩
  obtain ⟨ok0, hok0⟩ : ∃ ok0, ok0 = (d.t.hd (s, l.length)).isSome := ⟨_, rfl⟩
  have e1 : (Option.map Int.ofNat (d.t.hd (s, l.length))).getD 0 = (at0 : Nat) := by rw [hat0]; cases d.t.hd (s, l.length) <;> rfl
  have e2 : (Option.map Int.ofNat (d.t.hd (s, l.length))).isSome = ok0 := by rw [hok0]; cases d.t.hd (s, l.length) <;> rfl
  rw [e1, e2] at hlook
  have HHD : Hid ((ok0 = true ∧ d.t.hd (s, l.length) = some at0) ∨ (ok0 = false ∧ d.t.hd (s, l.length) = none)) := by
    cases hh : d.t.hd (s, l.length) with
    | none => right; exact ⟨by rw [hok0, hh]; rfl, rfl⟩
    | some p => left; exact ⟨by rw [hok0, hh]; rfl, by rw [hat0, hh]; rfl⟩
  clear hkl hat0 hok0 e1 e2
  go_quiet (fail)
  have h2 := h1.stay (w' := w1.drewN nq) (fun _ _ => rfl)
  have hM2 := hM1.drewN nq
  have kb2 : (w1.drewN nq).heap[bx]? = some (.cells #[.string s, .int .i64 (l.length : Nat)] 108 (0, 0)) := kb
  clear h1 hM1 kb d0 d1 c2 hlook
  generalize w1.drewN nq = w2 at h2 hM2 kb2 ⊢
  have HG2 : Hid (GT w2 g d) := h2
  have HM2 : Hid (Mv (Fa g d) w w2) := hM2
  have HKB : Hid (w2.heap[bx]? = some (.cells #[.string s, .int .i64 (l.length : Nat)] 108 (0, 0))) := kb2
  clear h2 hM2 kb2
  go_upto_if 30 with fail
  go_cut [8] from 31 to 38 (fun v8 wx => ∃ (a0 : Nat) (D : Gd), v8 = .int .i64 (a0 : Nat) ∧ AddSt g d s l 0 a0 w wx D)
  case first =>
    cases ok0 with
    | true =>
      have hp : d.t.hd (s, l.length) = some at0 := by
        rcases HHD.out with ⟨_, h9⟩ | ⟨h9, _⟩
        · exact h9
        · cases h9
      go_wp2
      go_meet
      case rel => exact ⟨at0, d, rfl, AddSt.start HG2.out HT.out.2 HM2.out hp⟩
    | false =>
      have hp : d.t.hd (s, l.length) = none := by
        rcases HHD.out with ⟨h9, _⟩ | ⟨_, h9⟩
        · cases h9
        · exact h9
      have HP : Hid (d.t.hd (s, l.length) = none) := hp
      clear hp
      go_wp2_with fail
      refine (keep_any g d.x d.f d.m d.y d.s (-1) (-1) w2 HG2.out.cw (by have := HNP.out; omega)).mono ?_
      rintro e w3 ⟨rfl, v, hC3, hM3, hv3⟩
      have hG3 := HG2.out.kept hC3 hM3
      have hkb3 : w3.heap[bx]? = _ := (hM3.other bx (Array.getElem?_eq_some_iff.1 HKB.out).1 (fun h9 => HL0.out _ h9 rfl)).trans HKB.out
      have hT3 := HT.out.2.newHead (n := l.length) HP.out (fun h9 => by have : l = [] := List.eq_nil_of_length_eq_zero h9; rw [this]) _ rfl
      have hG3d : GT w3.drew g _ := hG3.stay (w' := w3.drew) (fun _ _ => rfl)
      obtain ⟨w4, hrun, hG4, hturn⟩ := enterHead hG3d (s := s) (n := l.length) (q := d.f.np) HS.out hl (by have := HNP.out; omega) rfl hT3
      have b0 : w3.cell? ⟨bx, 0, none⟩ = some (.string s) := cell_of_row _ bx 0 _ 108 (0, 0) hkb3
      have b1 : w3.cell? ⟨bx, 1, none⟩ = some (.int .i64 (l.length : Nat)) := cell_of_row _ bx 1 _ 108 (0, 0) hkb3
      obtain ⟨-, -, c2, -, -, -, -, -, -, -⟩ := hC3.cells
      have c2' : w3.cell? ⟨g, 2, none⟩ = some (.map (some d.bH)) := by rw [← HG2.out.c2]; exact c2
      have HFIN : Hid (∃ D, AddSt g d s l 0 d.f.np w w4 D) := by
        refine ⟨_, AddSt.startNew (v := v) hG4 hT3 (fun i hi => upd_other _ _ (by omega)) (fun i hi => upd_other _ _ (by omega)) (upd_same _ _ _) ?_ ?_⟩
        · refine (Mv.drew (HM2.out.trans hM3 (fun b hb => Or.inl (hb.elim Or.inl (fun h9 => Or.inr (Or.inl h9)))))).turned hturn (Or.inl (Or.inr (Or.inr (Or.inr (Or.inl rfl)))))
        · rcases hv3 with h9 | ⟨b, h9, h10⟩
          · exact Or.inl h9
          · exact Or.inr ⟨b, h9, Nat.le_trans HM2.out.size h10⟩
      clear hG3 hG3d hT3 hC3 hM3 hv3 hkb3 c2 hG4 hturn
      replace hrun : (Instr.mapUpdate 63 (.map (some d.bH)) (.agg #[.string s, .int .i64 (l.length : Nat)]) (.int .i64 (d.f.np : Nat))).run Try.prog w3.drew = .ok () w4 := hrun
      go_wp2
      go_region
      go_wp2
      go_meet
      case rel => obtain ⟨D, hD⟩ := HFIN.out; exact ⟨_, D, rfl, hD⟩
  case rest =>
    obtain ⟨a0, D0, rfl, hA0⟩ := hcut
    have HA0 : Hid (AddSt g d s l 0 a0 w wc D0) := hA0
    clear HKB HHD HG2 HM2 HL0 hA0 HBX
    go_wp2
    go_loopw [8, 41] (fun v8 v41 wr => ∃ (k at_ : Nat) (D : Gd), v8 = .int .i64 (at_ : Nat) ∧ v41 = .int .i64 (k : Nat) ∧ k ≤ l.length ∧ Hid (AddSt g d s l k at_ w wr D)) (fun _ v _ => l.length - (intOf v).toNat)
    case atStart => exact ⟨0, a0, D0, rfl, rfl, Nat.zero_le _, HA0.out⟩
    case round =>
      clear HA0
      obtain ⟨k, at_, D, rfl, rfl, hk, HA⟩ := hrel
      by_cases hlt : k < l.length
      · have hltI : (k : Int) < (l.length : Int) := by omega
        obtain ⟨b, off, rfl, hbl, cu0⟩ := seg_cell HSEG.out hlt
        have cu : wr.cell? ⟨b, off + k, none⟩ = some (.int .i64 (l.getD k 0 : Nat)) := (World.cell?_of_block (a := ⟨b, off + k, none⟩) (HA.out.mv.other b hbl (HAP.out b off rfl))).trans cu0
        obtain ⟨a, ha⟩ : ∃ a, a = l.getD k 0 := ⟨_, rfl⟩
        rw [← ha] at cu
        have hget : l[k] = a := by rw [ha, List.getD_eq_getElem?_getD, List.getElem?_eq_getElem hlt]; rfl
        have HTK : Hid (l.take (k + 1) = l.take k ++ [a]) := by show _ = _; rw [List.take_succ_eq_append_getElem hlt, hget]
        have han : a < D.t.nn := by
          have := HIN.out a (by rw [← hget]; exact List.getElem_mem hlt)
          obtain ⟨v', np', P', lab', hd', pr', h9⟩ := HA.out.is
          rw [h9]; exact this
        clear hget ha cu0
        have hG := HA.out.gt
        have hsm := hG.cw.small
        have hWn := HA.out.ok.nw
        obtain ⟨gw, cw, hvw, hgw, w0⟩ := hG.cw.wholeAt (i := a) (by omega)
        have hWl := (HA.out.ok.whole a han).1
        have hat := HA.out.lt
        obtain ⟨-, -, -, -, -, c5, -, -, -, -⟩ := hG.cw.cells
        rw [hvw] at c5
        have hanw : (a : Int) < (D.f.nw : Int) := by omega
        have hA1 := HA.out.stay (wr' := wr.alloc (.cells #[.int .i64 (at_ : Nat), .int .i64 (D.f.W a : Nat)] 39 (0, 0))) ((Below.refl _ _).alloc (Nat.le_refl _) _)
        have kb : (wr.alloc (.cells #[.int .i64 (at_ : Nat), .int .i64 (D.f.W a : Nat)] 39 (0, 0))).heap[wr.heap.size]? = _ := heap_alloc_new wr _
        have HL0 : Hid (∀ b, (b = g ∨ D.x.vP.ownBlock = some b) → b ≠ wr.heap.size) := by
          rintro b (e | e) e'
          · have := hG.cw.lt; omega
          · have := hG.cw.parts.lt e; omega
        clear hvw hG
        go_upto_region 10 with fail
        obtain ⟨bx, hbx⟩ : ∃ bx, bx = wr.heap.size := ⟨_, rfl⟩
        rw [← hbx] at kb HL0 ⊢
        clear hbx c5 w0 cu HA
        generalize (wr.alloc (.cells #[.int .i64 (at_ : Nat), .int .i64 (D.f.W a : Nat)] 39 (0, 0))) = w1 at hA1 kb ⊢
        have d0 : w1.cell? ⟨bx, 0, none⟩ = some (.int .i64 (at_ : Nat)) := cell_of_row _ bx 0 _ 39 (0, 0) kb
        have d1 : w1.cell? ⟨bx, 1, none⟩ = some (.int .i64 (D.f.W a : Nat)) := cell_of_row _ bx 1 _ 39 (0, 0) kb
        obtain ⟨kl2, hkl2⟩ := keyPair (a := (at_ : Nat)) (b := (D.f.W a : Nat)) (wfNat (by omega)) (wfNat (by omega))
        obtain ⟨-, -, -, c3, -, -, -, -, -, -⟩ := hA1.gt.cw.cells
        rw [hA1.gt.c3] at c3
        have hlook2 : ∀ n, (Instr.lookup 64 (.map (some D.bR)) (.agg #[.int .i64 (at_ : Nat), .int .i64 (D.f.W a : Nat)]) true).run Try.prog (w1.drewN n) = .ok (.tuple #[.int .i64 ((sgF D.t.pr (.agg #[.int .i64 (at_ : Nat), .int .i64 (D.f.W a : Nat)])).getD 0), .bool (sgF D.t.pr (.agg #[.int .i64 (at_ : Nat), .int .i64 (D.f.W a : Nat)])).isSome]) (w1.drewN n) := fun n => (hA1.gt.pairs.stay (w' := w1.drewN n) rfl).look lawPair uSig uInt (zInt _) hkl2
        simp only [sgF_at] at hlook2
        obtain ⟨at1, hat1⟩ : ∃ at1, at1 = (D.t.pr (at_, D.f.W a)).getD 0 := ⟨_, rfl⟩
        obtain ⟨ok1, hok1⟩ : ∃ ok1, ok1 = (D.t.pr (at_, D.f.W a)).isSome := ⟨_, rfl⟩
        have e1 : (Option.map Int.ofNat (D.t.pr (at_, D.f.W a))).getD 0 = (at1 : Nat) := by rw [hat1]; cases D.t.pr (at_, D.f.W a) <;> rfl
        have e2 : (Option.map Int.ofNat (D.t.pr (at_, D.f.W a))).isSome = ok1 := by rw [hok1]; cases D.t.pr (at_, D.f.W a) <;> rfl
        rw [e1, e2] at hlook2
        have HPR : Hid ((ok1 = true ∧ D.t.pr (at_, D.f.W a) = some at1) ∨ (ok1 = false ∧ D.t.pr (at_, D.f.W a) = none)) := by
          cases hh : D.t.pr (at_, D.f.W a) with
          | none => right; exact ⟨by rw [hok1, hh]; rfl, rfl⟩
          | some p => left; exact ⟨by rw [hok1, hh]; rfl, by rw [hat1, hh]; rfl⟩
        clear hkl2 hat1 hok1 e1 e2
        go_quiet (fail)
        have hA2 := hA1.stay (wr' := w1.drewN nq) ⟨rfl, rfl, rfl, Nat.le_refl _, fun _ _ => rfl⟩
        have kb2 : (w1.drewN nq).heap[bx]? = some (.cells #[.int .i64 (at_ : Nat), .int .i64 (D.f.W a : Nat)] 39 (0, 0)) := kb
        clear hA1 kb d0 d1 c3 hlook2
        generalize w1.drewN nq = w2 at hA2 kb2 ⊢
        have HA2 : Hid (AddSt g d s l k at_ w w2 D) := hA2
        have HKB : Hid (w2.heap[bx]? = some (.cells #[.int .i64 (at_ : Nat), .int .i64 (D.f.W a : Nat)] 39 (0, 0))) := kb2
        clear hA2 kb2
        go_upto_if 64 with fail
        go_cut [13] from 65 to 76 (fun v13 wx => ∃ (a1 : Nat) (D' : Gd), v13 = .int .i64 (a1 : Nat) ∧ Hid (AddSt g d s l (k + 1) a1 w wx D'))
        case first =>
          cases ok1 with
          | true =>
            have hp : D.t.pr (at_, D.f.W a) = some at1 := by
              rcases HPR.out with ⟨_, h9⟩ | ⟨h9, _⟩
              · exact h9
              · cases h9
            have HR : Hid (at1 < D.f.np ∧ D.t.lab at1 = (s, l.length, l.take (k + 1))) := by
              obtain ⟨k1, k2, s', n', l', a', k3, k4, k5, k6⟩ := HA2.out.ok.pr1 at_ (D.f.W a) at1 hp
              rw [HA2.out.at_] at k3
              cases k3
              obtain rfl := HA2.out.ok.Winj k4 han k5
              exact ⟨k1, by rw [HTK.out]; exact k6⟩
            clear hp
            go_wp2
            go_meet
            case rel => exact ⟨at1, D, rfl, HA2.out.same HR.out.1 HR.out.2⟩
          | false =>
            have hp : D.t.pr (at_, D.f.W a) = none := by
              rcases HPR.out with ⟨h9, _⟩ | ⟨_, h9⟩
              · cases h9
              · exact h9
            have HP : Hid (D.t.pr (at_, D.f.W a) = none) := hp
            have hD10 : D.f.np + 1 ≤ 10000 := by
              have h8 := HA2.out.np
              have h9 := HNP.out
              omega
            clear hp
            have b0' : w2.cell? ⟨bx, 0, none⟩ = some (.int .i64 (at_ : Nat)) := cell_of_row _ bx 0 _ 39 (0, 0) HKB.out
            have b1' : w2.cell? ⟨bx, 1, none⟩ = some (.int .i64 (D.f.W a : Nat)) := cell_of_row _ bx 1 _ 39 (0, 0) HKB.out
            go_wp2_with fail
            refine (keep_any g D.x D.f D.m D.y D.s (at_ : Nat) (D.f.W a : Nat) w2 HA2.out.gt.cw hD10).mono ?_
            rintro e w3 ⟨rfl, v, hC3, hM3, hv3⟩
            have hG3 := HA2.out.gt.kept hC3 hM3
            have hkb3 : w3.heap[bx]? = _ := (hM3.other bx (Array.getElem?_eq_some_iff.1 HKB.out).1 (fun h9 => HL0.out _ h9 rfl)).trans HKB.out
            have hln : (l.take k).length = k := by rw [List.length_take]; omega
            have hT3 := HA2.out.ok.newPart HA2.out.lt HA2.out.at_ han (by rw [hln]; exact hlt) HP.out (fun h9 => by
              rw [hln] at h9
              rw [← HTK.out, h9, List.take_length]) _ rfl
            have hG3d : GT w3.drew g _ := hG3.stay (w' := w3.drew) (fun _ _ => rfl)
            obtain ⟨w4, hrun, hG4, hturn⟩ := enterPair hG3d (p := at_) (c := D.f.W a) (q := D.f.np) (by omega) (by omega) (by omega) rfl hT3
            have b0 : w3.cell? ⟨bx, 0, none⟩ = some (.int .i64 (at_ : Nat)) := cell_of_row _ bx 0 _ 39 (0, 0) hkb3
            have b1 : w3.cell? ⟨bx, 1, none⟩ = some (.int .i64 (D.f.W a : Nat)) := cell_of_row _ bx 1 _ 39 (0, 0) hkb3
            obtain ⟨-, -, -, c3, -, -, -, -, -, -⟩ := hC3.cells
            have c3' : w3.cell? ⟨g, 3, none⟩ = some (.map (some D.bR)) := by rw [← HA2.out.gt.c3]; exact c3
            have HFIN : Hid (∃ D', AddSt g d s l (k + 1) D.f.np w w4 D') := by
              refine ⟨_, HA2.out.next (v := v) hG4 hT3 (fun i hi => upd_other _ _ (by omega)) (fun i hi => upd_other _ _ (by omega)) ?_ ?_ hv3⟩
              · rw [upd_same, HTK.out]
              · exact (Mv.drew (F := Fa g D) (w := w2) ⟨hM3.os, hM3.tape, hM3.output, hM3.size, fun b hb hn => hM3.other b hb (fun h9 => hn (h9.elim Or.inl (fun h9 => Or.inr (Or.inl h9))))⟩).turned hturn (Or.inl (Or.inr (Or.inr (Or.inr (Or.inr rfl)))))
            clear hG3 hG3d hT3 hC3 hM3 hv3 hkb3 c3 hG4 hturn b0' b1' hln
            replace hrun : (Instr.mapUpdate 64 (.map (some D.bR)) (.agg #[.int .i64 (at_ : Nat), .int .i64 (D.f.W a : Nat)]) (.int .i64 (D.f.np : Nat))).run Try.prog w3.drew = .ok () w4 := hrun
            go_wp2
            go_region
            go_wp2
            go_meet
            case rel => obtain ⟨D', hD⟩ := HFIN.out; exact ⟨_, D', rfl, hD⟩
        case rest =>
          obtain ⟨a1, D', rfl, HA3⟩ := hcut
          clear HKB HPR HA2 HL0 HTK
          go_wp2
          go_roundw
          case rel => exact ⟨k + 1, a1, D', rfl, by go_num, by omega, HA3⟩
          case measure => simp [intOf]; omega
      · have hk2 : k = l.length := by omega
        have hltI : ¬ ((k : Int) < (l.length : Int)) := by omega
        subst hk2
        have hG := HA.out.gt
        have hsm := hG.cw.small
        have HNW : Hid (D.f.nw = d.t.nn ∧ D.f.nw = D.t.nn) := by
          refine ⟨?_, HA.out.ok.nw⟩
          obtain ⟨v', np', P', lab', hd', pr', h9⟩ := HA.out.is
          rw [HA.out.ok.nw, h9]; rfl
        have hnw9 : D.f.nw ≤ 20000 := by have := HNW.out.1; omega
        have hat := HA.out.lt
        have hatI : (at_ : Int) < (D.f.np : Int) := by omega
        obtain ⟨gp, cp, hvp, hgp, p0, p1, p2⟩ := hG.cw.part hat
        obtain ⟨aw, cw, hvw, hcw1, hcw2, -, -⟩ := hG.cw.whole.shape
        obtain ⟨-, -, -, -, c4, c5, -, -, -, -⟩ := hG.cw.cells
        rw [hvp] at c4
        have hpf := hG.cw.parts
        rw [hvp] at hpf
        have q2 := hpf.frozen (at_ * 3 + 2)
        have hG1 := hG.setNode (z := (D.f.nw : Nat)) hvp hat
        have hM1 : Mv (Fa g d) w (wr.setCell ⟨gp, at_ * 3 + 2, none⟩ (.int .i64 (D.f.nw : Nat))) := HA.out.mv.set (HA.out.fa (Or.inr (Or.inl (by rw [hvp]; rfl)))) _
        have HVW : Hid (D.x.vW = .slice aw D.f.nw cw) := hvw
        rw [hvw] at c5
        clear hG hvp hvw hpf p0 p1
        go_upto_region 18 with fail
        generalize (wr.setCell ⟨gp, at_ * 3 + 2, none⟩ (.int .i64 (D.f.nw : Nat))) = w1 at hG1 hM1 ⊢
        clear c4 c5 q2 p2
        obtain ⟨-, -, -, -, -, c5, -, -, -, -⟩ := hG1.cw.cells
        replace c5 : w1.cell? ⟨g, 5, none⟩ = some (.slice aw D.f.nw cw) := by rw [← HVW.out]; exact c5
        have hgl := hG1.cw.lt
        have hol0 := hG1.cw.whole
        have hblk := hG1.cw.blk
        have h4 := hG1.cw.alloc (.cells #[.int .i64 (at_ : Nat)] 3 (0, 0))
        replace h4 := h4.whole
        replace h4 : OL 1 3 (w1.alloc (.cells #[.int .i64 (at_ : Nat)] 3 (0, 0))) (.slice aw D.f.nw cw) D.f.nw (fun i => [.int .i64 (D.f.W i : Nat)]) := by rw [← HVW.out]; exact h4
        go_wp2_with (at_builtin; refine Stop.of ?_)
        show wpList _ _ _ _ _ _
        refine wpList_push rfl (.tmp 96) (.tmp 98) 35 rfl 1 3 _ 8 uInts iInt (by decide) rfl (by decide) (.slice aw D.f.nw cw) D.f.nw _ rfl [.int .i64 (at_ : Nat)] 3 h4 (fun _ _ => rfl) 1 rfl rfl (by intro u hu; simp at hu; subst hu; rfl) (by omega) (fun i => [.int .i64 (upd D.f.W D.f.nw at_ i : Nat)]) (fun k hk => by simp [upd, Nat.ne_of_lt hk]) (by simp [upd]) ?_
        intro v w2 hol hap hne
        replace hap := hap.of_alloc (fun b hb => hol0.lt (by rw [← hb]; show D.x.vW.ownBlock = _; rw [HVW.out]))
        replace hap : App D.x.vW v w1 w2 := by rw [HVW.out]; exact hap
        obtain ⟨k1, k2⟩ := hG1.pushWhole at_ hap hol
        have hg1 : w2.heap[g]? = _ := (hap.other g hgl (hol0.neB hblk (by decide))).trans hblk
        have c51 : w2.cell? ⟨g, 5, none⟩ = some D.x.vW := cell_of_row w2 g 5 _ 72 (0, 0) hg1
        have q51 : w2.frozen? ⟨g, 5, none⟩ = false := frozen_of_row w2 g 5 _ 72 hg1
        have hgl2 : g < w2.heap.size := (Array.getElem?_eq_some_iff.1 hg1).1
        have hat2 := hap.at_
        have HFIN : Hid (AddEnd g d s l w (w2.setCell ⟨g, 5, none⟩ v)) := by
          have hdn := HA.out.done HT.out.1 HNO.out HIN.out v
          rw [← HNW.out.2] at hdn
          refine ⟨_, hdn, ?_, ?_, ?_, ?_⟩
          · exact ⟨k1.cw, k1.c2, k1.c3, k1.heads, k1.pairs, k1.mne⟩
          · exact hM1.trans k2 (fun b hb => HA.out.fa (hb.elim Or.inl (fun h9 => Or.inr (Or.inr (Or.inl h9)))))
          · exact HA.out.vP
          · show v.ownBlock = d.x.vW.ownBlock ∨ ∃ b, v.ownBlock = some b ∧ w.heap.size ≤ b
            rcases hat2 with h9 | ⟨b, h9, h10⟩
            · left; rw [h9]
              obtain ⟨v', np', P', lab', hd', pr', h11⟩ := HA.out.is
              rw [h11]; rfl
            · exact Or.inr ⟨b, h9, Nat.le_trans hM1.size h10⟩
        obtain ⟨ao', cc, hv', -, -, -, -⟩ := hol.shape
        subst hv'
        clear hg1 hol hap h4 hol0 hblk hat2 hne k1 k2 hG1 c5
        go_wp2
        go_ret
        exact ⟨by rw [HNW.out.1]; rfl, HFIN.out⟩
end Euf
end Go.Proofs.Ytlonnhnfmcndfad
