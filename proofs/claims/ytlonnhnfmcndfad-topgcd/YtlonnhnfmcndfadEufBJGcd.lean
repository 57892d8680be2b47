/- The whole graph in the machine; the contract of find; no statement of the seat is proved here. -/
import Derived.Test.YtlonnhnfmcndfadEufAJGcd
namespace Go.Proofs.Ytlonnhnfmcndfad
open Go.RowKit
set_option linter.unusedVariables false
namespace Euf
def hdF (hd : ByteArray × Nat → Option Nat) : Value → Option Int
  | .agg cs => match cs.toList with
    | [.string s, .int .i64 n] => if 0 ≤ n then Option.map Int.ofNat (hd (s, n.toNat)) else none
    | _ => none
  | _ => none
theorem hdF_at (hd : ByteArray × Nat → Option Nat) (s : ByteArray) (n : Nat) : hdF hd (.agg #[.string s, .int .i64 (n : Nat)]) = Option.map Int.ofNat (hd (s, n)) := by simp [hdF]
theorem hdF_some {hd : ByteArray × Nat → Option Nat} {v : Value} {z : Int} (h : hdF hd v = some z) : ∃ s, ∃ n q : Nat, v = .agg #[.string s, .int .i64 (n : Nat)] ∧ hd (s, n) = some q ∧ z = (q : Nat) := by
  unfold hdF at h
  split at h
  · rename_i cs
    split at h
    · rename_i p q hcs
      split at h
      · rename_i hpq
        obtain ⟨r, hr, rfl⟩ := Option.map_eq_some_iff.1 h
        refine ⟨p, q.toNat, r, ?_, hr, rfl⟩
        have : cs = #[.string p, .int .i64 q] := by
          apply Array.toList_inj.1; rw [hcs]
        rw [this, Int.toNat_of_nonneg hpq]
      · cases h
    · cases h
  · cases h
theorem hdF_other {hd hd' : ByteArray × Nat → Option Nat} {s : ByteArray} {n : Nat} (h : ∀ k, k ≠ (s, n) → hd' k = hd k) : ∀ v, v ≠ Value.agg #[.string s, .int .i64 (n : Nat)] → hdF hd' v = hdF hd v := by
  intro v hv
  have one : ∀ (a b : ByteArray × Nat → Option Nat), (∀ k, k ≠ (s, n) → a k = b k) → ∀ z, hdF a v = some z → hdF b v = some z := by
    intro a b hst z hz
    obtain ⟨p, q, r, rfl, h1, rfl⟩ := hdF_some hz
    have hne : (p, q) ≠ (s, n) := by
      intro e
      injection e with e1 e2
      subst e1 e2
      exact hv rfl
    rw [hdF_at, ← hst _ hne, h1]; rfl
  cases h1 : hdF hd' v with
  | some z => exact (one _ _ h z h1).symm
  | none =>
    cases h2 : hdF hd v with
    | none => rfl
    | some z => rw [one _ _ (fun k hk => (h k hk).symm) z h2] at h1; cases h1
theorem uHead : Try.prog.underlying 63 = some (.map 108 3) := by kernel_rfl
theorem cHead : Try.prog.cellsOf 108 = 2 := by kernel_rfl
theorem cStr : Try.prog.cellsOf 9 = 1 := by kernel_rfl
theorem wideHead : (match Try.prog.underlying 108 with | some (.array _ _) | some (.struct _) => true | _ => false) = true := by kernel_rfl
set_option maxRecDepth 100000 in
theorem lawHead : Maps.Keyed Try.prog 108 := Maps.Keyed.of_law (deep_law_laid laidOut (m := 2) (by omega) (of_decide_eq_true (by kernel_rfl)) (by kernel_rfl) wideHead)
theorem keyHead {s : ByteArray} {n : Nat} (hs : s.size ≤ maxLen) (hn : n ≤ 9223372036854775807) : ∃ kl, keyOf Try.prog 108 (.agg #[.string s, .int .i64 (n : Nat)]) = some kl := by
  obtain ⟨k, hk⟩ := tsz
  have hw := wfNat hn
  have h1 : Try.prog.keyType 108 = true := by kernel_rfl
  have hu : ∃ fs, Try.prog.underlying 108 = some (.struct fs) := by
    have := wideHead
    cases h : Try.prog.underlying 108 with
    | none => rw [h] at this; cases this
    | some d =>
      have k2 : (match Try.prog.underlying 108 with | some (.struct _) => true | _ => false) = true := by kernel_rfl
      rw [h] at k2
      cases d <;> simp at k2 ⊢
  have h2 : (Value.agg #[.string s, .int .i64 (n : Nat)]).formed Try.prog 108 = true := by
    obtain ⟨fs, hf⟩ := hu
    simp [Value.formed, hf, cHead]
  have h3 : Try.prog.keyLits (Try.prog.types.size + 1) 108 [.string s, .int .i64 (n : Nat)] = some [.string s.data.toList, .int .i64 (n : Nat)] := by
    rw [hk]
    simp [Program.keyLits, cHead, cInt, cStr, hw, hs]
  obtain ⟨fs, hf⟩ := hu
  unfold keyOf
  rw [hf]
  simp only [h1, h2, Bool.and_true, if_true]
  exact ⟨_, by rw [show (Value.agg #[.string s, .int .i64 (n : Nat)]).cells.toList = [.string s, .int .i64 (n : Nat)] from rfl, h3]; rfl⟩
theorem MapF.hdTight {w : World} {b n : Nat} {hd : ByteArray × Nat → Option Nat} (h : MapF Try.prog 108 3 w b n (hdF hd)) (N : Nat) (sn : Nat → Lab) (h1 : ∀ s n q, hd (s, n) = some q → q < N ∧ sn q = (s, n, [])) : MapF Try.prog 108 3 w b N (hdF hd) := by
  refine h.tight lawHead N (fun k z hz => ?_) (fun k k' z hz hz' => ?_)
  · obtain ⟨p, q, r, rfl, h2, rfl⟩ := hdF_some hz
    have := (h1 _ _ _ h2).1
    omega
  · obtain ⟨p, q, r, rfl, h2, rfl⟩ := hdF_some hz
    obtain ⟨p', q', r', rfl, h2', e⟩ := hdF_some hz'
    have : r = r' := by omega
    subst this
    have e1 := (h1 _ _ _ h2).2
    have e2 := (h1 _ _ _ h2').2
    have := e1.symm.trans e2
    simp only [Prod.mk.injEq, and_true] at this
    rw [this.1, this.2]
/-- The whole graph's data. -/
structure Gd where
  x : Lx
  f : Fx
  m : Nat
  y : Ly
  s : Sx
  t : Tx
  bH : Nat
  bR : Nat
  ag : Nat → Value
structure GW (w : World) (g : Nat) (d : Gd) : Prop where
  cw : CW w g d.x d.f d.m d.y d.s
  c2 : d.x.c2 = .map (some d.bH)
  c3 : d.x.c3 = .map (some d.bR)
  nodes : OL 2 37 w d.x.c0 d.t.nn (fun i => [.string (d.t.N i).1, d.ag i])
  args : ∀ i, i < d.t.nn → OL 1 3 w (d.ag i) (d.t.N i).2.length (natC (d.t.N i).2)
  heads : MapF Try.prog 108 3 w d.bH d.f.np (hdF d.t.hd)
  pairs : MapF Try.prog 39 3 w d.bR d.f.np (sgF d.t.pr)
  mne : d.bH ≠ d.bR ∧ d.bH ≠ d.x.bG ∧ d.bR ≠ d.x.bG
  ap1 : ∀ i, i < d.t.nn → ∀ b, (d.ag i).ownBlock = some b → d.x.vW.ownBlock ≠ some b
  ap2 : ∀ i, i < d.t.nn → ∀ j, j < d.s.ns → ∀ b, (d.ag i).ownBlock = some b → (d.y.au j).ownBlock ≠ some b
section
variable {w w' : World} {g : Nat} {d : Gd}
theorem GW.stay (h : GW w g d) (hb : ∀ b, b < w.heap.size → w'.heap[b]? = w.heap[b]?) : GW w' g d :=
  { h with
    cw := h.cw.stay hb
    nodes := h.nodes.stay fun b e => hb b (h.nodes.lt e)
    args := fun i hi => (h.args i hi).stay fun b e => hb b ((h.args i hi).lt e)
    heads := h.heads.stay (hb _ h.heads.lt)
    pairs := h.pairs.stay (hb _ h.pairs.lt) }
theorem GW.below (h : GW w g d) (hb : Below w.heap.size w w') : GW w' g d := h.stay fun b hlt => hb.block b hlt
end
theorem seg_cell {w : World} {ao : Option Addr} {xs : List Nat} (h : Seg .i64 w ao xs) {k : Nat} (hk : k < xs.length) : ∃ b off, ao = some ⟨b, off, none⟩ ∧ b < w.heap.size ∧ w.cell? ⟨b, off + k, none⟩ = some (.int .i64 (xs.getD k 0 : Nat)) := by
  obtain ⟨b, off, h1, h2⟩ := h.open k hk
  exact ⟨b, off, h1, World.block_lt_of_cell? w ⟨b, off + k, none⟩ (h2 k hk), h2 k hk⟩
/-- The node of that function and these arguments, if there is one. -/
def Found (t : Tx) (s : ByteArray) (l : List Nat) (r : Nat) (b : Bool) : Prop := (b = true ∧ r < t.nn ∧ t.N r = (s, l)) ∨ (b = false ∧ r = 0 ∧ ∀ a, a < t.nn → t.N a ≠ (s, l))
def FindEnd (t : Tx) (s : ByteArray) (l : List Nat) (e : Ending) : Prop := ∃ (r : Nat) (b : Bool), e = .returned (.tuple #[.int .i64 (r : Nat), .bool b]) ∧ Found t s l r b

set_option maxRecDepth 20000 in
set_option maxHeartbeats 8000000 in
theorem find_any (g : Nat) (d : Gd) (s : ByteArray) (l : List Nat) (ao : Option Addr) (cap : Nat) (w : World) (h : GW w g d) (ht : TOk d.f d.t none) (hs : s.size ≤ maxLen) (hl : l.length ≤ 10000) (hv : Seg .i64 w ao l) (hin : ∀ b ∈ l, b < d.t.nn) :
    Calls Try.prog 25 #[.pointer (some ⟨g, 2, none⟩), .string s, .slice ao l.length cap] w fun e w' => FindEnd d.t s l e ∧ Below w.heap.size w w' := by
  have HT : Hid (TOk d.f d.t none) := ht
  have HIN : Hid (∀ b ∈ l, b < d.t.nn) := hin
  obtain ⟨kl, hkl⟩ := keyHead (n := l.length) hs (by omega)
  have hlook : (Instr.lookup 63 (.map (some d.bH)) (.agg #[.string s, .int .i64 (l.length : Nat)]) true).run Try.prog w = .ok (.tuple #[.int .i64 ((hdF d.t.hd (.agg #[.string s, .int .i64 (l.length : Nat)])).getD 0), .bool (hdF d.t.hd (.agg #[.string s, .int .i64 (l.length : Nat)])).isSome]) w := h.heads.look lawHead uHead uInt (zInt _) hkl
  rw [hdF_at] at hlook
  obtain ⟨at0, hat0⟩ : ∃ at0, at0 = (d.t.hd (s, l.length)).getD 0 := ⟨_, rfl⟩
  obtain ⟨ok0, hok0⟩ : ∃ ok0, ok0 = (d.t.hd (s, l.length)).isSome := ⟨_, rfl⟩
  have e1 : (Option.map Int.ofNat (d.t.hd (s, l.length))).getD 0 = (at0 : Nat) := by rw [hat0]; cases d.t.hd (s, l.length) <;> rfl
  have e2 : (Option.map Int.ofNat (d.t.hd (s, l.length))).isSome = ok0 := by rw [hok0]; cases d.t.hd (s, l.length) <;> rfl
  rw [e1, e2] at hlook
  have HST : Hid ((ok0 = true ∧ at0 < d.f.np ∧ d.t.lab at0 = (s, l.length, l.take 0)) ∨ (ok0 = false ∧ ∀ p, p < d.f.np → d.t.lab p ≠ (s, l.length, l.take 0))) := by
    rw [List.take_zero]
    cases hh : d.t.hd (s, l.length) with
    | none => right; exact ⟨by rw [hok0, hh]; rfl, fun p hp e => by rw [ht.hd2 s l.length p hp e] at hh; cases hh⟩
    | some p => left; rw [hat0, hok0, hh]; exact ⟨rfl, ht.hd1 s l.length p hh⟩
  obtain ⟨-, -, c2, c3, c4, c5, -, -, -, -⟩ := h.cw.cells
  rw [h.c2] at c2
  rw [h.c3] at c3
  have HGW : Hid (GW w g d) := h
  have HSEG : Hid (Seg .i64 w ao l) := hv
  clear h ht hin hkl hat0 hok0 e1 e2 hs hv c4 c5
  go_enter Try.func25, Try.ntmps25
  go_wp2
  go_loopw [8, 9, 26] (fun v8 v9 v26 wr => ∃ (k at_ : Nat) (ok : Bool), v8 = .int .i64 (at_ : Nat) ∧ v9 = .bool ok ∧ v26 = .int .i64 (k : Nat) ∧ k ≤ l.length ∧ Hid ((ok = true ∧ at_ < d.f.np ∧ d.t.lab at_ = (s, l.length, l.take k)) ∨ (ok = false ∧ ∀ p, p < d.f.np → d.t.lab p ≠ (s, l.length, l.take k))) ∧ Below w.heap.size w wr) (fun _ _ v _ => l.length - (intOf v).toNat)
  case atStart => exact ⟨0, at0, ok0, rfl, rfl, rfl, Nat.zero_le _, HST.out, Below.refl _ _⟩
  case round =>
    clear HST hlook c2 c3
    obtain ⟨k, at_, ok, rfl, rfl, rfl, hk, HR, hbw⟩ := hrel
    by_cases hlt : k < l.length
    · have hltI : (k : Int) < (l.length : Int) := by omega
      obtain ⟨b, off, rfl, hbl, cu0⟩ := seg_cell HSEG.out hlt
      have cu := (hbw.cell (p := ⟨b, off + k, none⟩) hbl).trans cu0
      obtain ⟨a, ha⟩ : ∃ a, a = l.getD k 0 := ⟨_, rfl⟩
      rw [← ha] at cu
      have hget : l[k] = a := by rw [ha, List.getD_eq_getElem?_getD, List.getElem?_eq_getElem hlt]; rfl
      have HTK : Hid (l.take (k + 1) = l.take k ++ [a]) := by show _ = _; rw [List.take_succ_eq_append_getElem hlt, hget]
      have han : a < d.t.nn := HIN.out a (by rw [← hget]; exact List.getElem_mem hlt)
      clear hget ha cu0
      cases ok with
      | false =>
        have HN : Hid (∀ a, a < d.t.nn → d.t.N a ≠ (s, l)) := fun a ha e => by
          have h1 := HT.out.whole a ha
          rcases HR.out with ⟨h2, _⟩ | ⟨_, h2⟩
          · cases h2
          · rw [e] at h1
            obtain ⟨p, hp, hlp⟩ := HT.out.prefix (s := s) (n := l.length) (l.take k) (l.drop k) _ h1.1 (by rw [List.take_append_drop]; exact h1.2.1)
            exact h2 p hp hlp
        go_wp2
        refine bodyPost_ret (v := .tuple #[.int .i64 ((0 : Nat) : Int), .bool false]) (by simp [results, Try.results25, go_sem]) rfl ?_
        exact ⟨⟨0, false, rfl, Or.inr ⟨rfl, rfl, HN.out⟩⟩, hbw⟩
      | true =>
        obtain ⟨hat, hlab⟩ : at_ < d.f.np ∧ d.t.lab at_ = (s, l.length, l.take k) := by
          rcases HR.out with ⟨_, h2⟩ | ⟨h2, _⟩
          · exact h2
          · cases h2
        have hG := HGW.out.below hbw
        have hsm := hG.cw.small
        have hWn := HT.out.nw
        obtain ⟨gw, cw, hvw, hgw, w0⟩ := hG.cw.wholeAt (i := a) (by omega)
        have hWl := (HT.out.whole a han).1
        obtain ⟨kl2, hkl2⟩ := keyPair (a := (at_ : Nat)) (b := (d.f.W a : Nat)) (wfNat (by omega)) (wfNat (by omega))
        obtain ⟨-, -, -, c3, -, c5, -, -, -, -⟩ := hG.cw.cells
        rw [hG.c3] at c3
        rw [hvw] at c5
        have hlook2 : ∀ n, (Instr.lookup 64 (.map (some d.bR)) (.agg #[.int .i64 (at_ : Nat), .int .i64 (d.f.W a : Nat)]) true).run Try.prog (wr.drewN n) = .ok (.tuple #[.int .i64 ((sgF d.t.pr (.agg #[.int .i64 (at_ : Nat), .int .i64 (d.f.W a : Nat)])).getD 0), .bool (sgF d.t.pr (.agg #[.int .i64 (at_ : Nat), .int .i64 (d.f.W a : Nat)])).isSome]) (wr.drewN n) := fun n => (hG.pairs.stay (w' := wr.drewN n) rfl).look lawPair uSig uInt (zInt _) hkl2
        simp only [sgF_at] at hlook2
        obtain ⟨at1, hat1⟩ : ∃ at1, at1 = (d.t.pr (at_, d.f.W a)).getD 0 := ⟨_, rfl⟩
        obtain ⟨ok1, hok1⟩ : ∃ ok1, ok1 = (d.t.pr (at_, d.f.W a)).isSome := ⟨_, rfl⟩
        have e1 : (Option.map Int.ofNat (d.t.pr (at_, d.f.W a))).getD 0 = (at1 : Nat) := by rw [hat1]; cases d.t.pr (at_, d.f.W a) <;> rfl
        have e2 : (Option.map Int.ofNat (d.t.pr (at_, d.f.W a))).isSome = ok1 := by rw [hok1]; cases d.t.pr (at_, d.f.W a) <;> rfl
        rw [e1, e2] at hlook2
        have HR1 : Hid ((ok1 = true ∧ at1 < d.f.np ∧ d.t.lab at1 = (s, l.length, l.take (k + 1))) ∨ (ok1 = false ∧ ∀ p, p < d.f.np → d.t.lab p ≠ (s, l.length, l.take (k + 1)))) := by
          rw [HTK.out]
          cases hh : d.t.pr (at_, d.f.W a) with
          | none => right; exact ⟨by rw [hok1, hh]; rfl, fun p hp e => by rw [HT.out.pr2 p s l.length (l.take k) a at_ hp e hat hlab] at hh; cases hh⟩
          | some p =>
            left; rw [hat1, hok1, hh]
            obtain ⟨h1, h2, s', n', l', a', h3, h4, h5, h6⟩ := HT.out.pr1 at_ (d.f.W a) p hh
            rw [hlab] at h3
            cases h3
            obtain rfl := HT.out.Winj h4 han h5
            exact ⟨rfl, h1, h6⟩
        clear hkl2 hat1 hok1 e1 e2 hlab hvw
        have hanw : (a : Int) < (d.f.nw : Int) := by omega
        go_wp2
        go_quiet (fail)
        go_wp2
        go_roundw
        case rel => exact ⟨k + 1, at1, ok1, rfl, rfl, by go_num, by omega, HR1.out, ⟨hbw.os, hbw.tape, hbw.output, hbw.size, hbw.block⟩⟩
        case measure => simp [intOf]; omega
    · have hk2 : k = l.length := by omega
      have hltI : ¬ ((k : Int) < (l.length : Int)) := by omega
      subst hk2
      cases ok with
      | false =>
        have HN : Hid (∀ a, a < d.t.nn → d.t.N a ≠ (s, l)) := fun a ha e => by
          have h1 := HT.out.whole a ha
          rcases HR.out with ⟨h2, _⟩ | ⟨_, h2⟩
          · cases h2
          · rw [e] at h1
            rw [List.take_length] at h2
            exact h2 _ h1.1 h1.2.1
        go_wp2
        refine bodyPost_ret (v := .tuple #[.int .i64 ((0 : Nat) : Int), .bool false]) (by simp [results, Try.results25, go_sem]) rfl ?_
        exact ⟨⟨0, false, rfl, Or.inr ⟨rfl, rfl, HN.out⟩⟩, hbw⟩
      | true =>
        obtain ⟨hat, hlab⟩ : at_ < d.f.np ∧ d.t.lab at_ = (s, l.length, l) := by
          rcases HR.out with ⟨_, h2⟩ | ⟨h2, _⟩
          · rw [List.take_length] at h2; exact h2
          · cases h2
        obtain ⟨a, ha, hw, hN, hnd⟩ := HT.out.same hat hlab
        have HND : Hid (a < d.t.nn ∧ d.t.N a = (s, l)) := ⟨ha, hN⟩
        have hG := HGW.out.below hbw
        obtain ⟨gp, cp, hvp, hgp, p0, p1, p2⟩ := hG.cw.part hat
        obtain ⟨-, -, -, -, c4, -, -, -, -, -⟩ := hG.cw.cells
        rw [hvp] at c4
        rw [hnd] at p2
        have hatI : (at_ : Int) < (d.f.np : Int) := by omega
        clear hlab ha hw hN hnd hvp
        go_wp2
        refine bodyPost_ret (v := .tuple #[.int .i64 (a : Nat), .bool true]) (by simp [results, Try.results25, go_sem]) rfl ?_
        exact ⟨⟨a, true, rfl, Or.inl ⟨rfl, HND.out.1, HND.out.2⟩⟩, hbw⟩
end Euf
end Go.Proofs.Ytlonnhnfmcndfad
