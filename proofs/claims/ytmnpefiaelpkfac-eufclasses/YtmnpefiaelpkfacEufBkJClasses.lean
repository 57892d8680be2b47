/- Contracts of forget and Back; they prove no statement of the seat. -/
import Derived.Test.YtmnpefiaelpkfacEufFdJClasses
namespace Go.Proofs.Ytmnpefiaelpkfac
open Go.RowKit
set_option linter.unusedVariables false
namespace Euf
/-- The classes know of nothing. -/
def dF (d : Gd) (v : Value) : Gd := { d with m := 0, y := { d.y with vS := v }, s := { ns := 0, S := d.s.S, sg := fun _ => none, cl := [] } }
/-- Only so many equations. -/
def dB (d : Gd) (v : Value) (n : Nat) : Gd := { d with x := { d.x with c1 := v }, f := { d.f with ne := n } }
theorem sgF_nothing : sgF (fun _ => none) = fun _ => none := funext sgF_none
section
variable {w : World} {g : Nat} {d : Gd}
theorem GW.setEqs (h : GW w g d) {v : Value} {n : Nat} (hv : v.ownBlock = d.x.c1.ownBlock) (hol : OL 3 88 w v n (eqC d.f.E)) : GW (w.setCell ⟨g, 1, none⟩ v) g (dB d v n) ∧ Mv (Fg g d) w (w.setCell ⟨g, 1, none⟩ v) ∧ ∀ b, Fg g (dB d v n) b → Fg g d b := by
  have keep : ∀ b, b ≠ g → (w.setCell ⟨g, 1, none⟩ v).heap[b]? = w.heap[b]? := fun b h2 => heap_setCell_other w ⟨g, 1, none⟩ b v h2
  have other : ∀ {sz : Nat} {e : TypeId} {v' : Value} {n : Nat} {f' : Nat → List Value}, OL sz e w v' n f' → e ≠ 73 → OL sz e (w.setCell ⟨g, 1, none⟩ v) v' n f' := by
    intro sz e v' n f' ho h2
    exact ho.stay fun b hb => keep b (fun e' => ho.neB h.cw.blk h2 (by rw [hb, e']))
  have mp : ∀ {K E : TypeId} {b k : Nat} {m : Value → Option Int}, MapF Try.prog K E w b k m → MapF Try.prog K E (w.setCell ⟨g, 1, none⟩ v) b k m := by
    intro K E b k m hm
    refine hm.stay (keep _ (fun e' => ?_))
    obtain ⟨es, cl, he⟩ := hm.isMap
    rw [e', h.cw.blk] at he
    cases he
  refine ⟨{ cw := { blk := (heap_setCell_same w g 1 _ 73 v h.cw.blk).trans rfl, parts := other h.cw.parts (by decide), whole := other h.cw.whole (by decide), eqs := other hol (by decide), spots := other h.cw.spots (by decide), uses := fun i hi => other (h.cw.uses i hi) (by decide), claims := other h.cw.claims (by decide), sig := mp h.cw.sig, apart := h.cw.apart, apartW := h.cw.apartW, small := h.cw.small }, c2 := h.c2, c3 := h.c3, nodes := other h.nodes (by decide), args := fun i hi => other (h.args i hi) (by decide), heads := mp h.heads, pairs := mp h.pairs, mne := h.mne, ap1 := h.ap1, ap2 := h.ap2 }, ?_, ?_⟩
  · exact ⟨rfl, rfl, rfl, by simp, fun b hb hn => keep b (fun e' => hn (Or.inl (Or.inr (Or.inl e'))))⟩
  · rintro b (hb | hb | hb)
    · exact Or.inl hb
    · exact Or.inr (Or.inl (hv ▸ hb))
    · exact Or.inr (Or.inr hb)
/-- What the classes held is gone. -/
theorem GW.cleared {w1 w2 : World} (h : GW w g d) {v : Value} (hv : v.ownBlock = d.y.vS.ownBlock) (hol : OL 7 86 w v 0 (spotC d.s.S d.y.au)) (hcl : d.s.cl = []) (hw1 : w1 = (w.setCell ⟨g, 6, none⟩ (.int .i64 0)).setCell ⟨g, 7, none⟩ v) (ht : w1.mapTurned w2 d.x.bG) (hm : MapF Try.prog 51 3 w2 d.x.bG 0 (fun _ => none)) :
    GW w2 g (dF d v) ∧ Mv (Fg g d) w w2 ∧ ∀ b, Fg g (dF d v) b → Fg g d b := by
  have hg := ht.grown
  have hs1 : w1.heap.size = w.heap.size := by rw [hw1]; simp
  have keep : ∀ b, b < w.heap.size → b ≠ g → b ≠ d.x.bG → w2.heap[b]? = w.heap[b]? := fun b hb h1 h2 => (hg.block b (by rw [hs1]; exact hb) (fun e => h2 (by injection e))).trans (by rw [hw1, heap_setCell_other _ ⟨g, 7, none⟩ b v h1, heap_setCell_other w ⟨g, 6, none⟩ b _ h1])
  obtain ⟨es, cl, he⟩ := h.cw.sig.isMap
  have hgb : g ≠ d.x.bG := fun e => blk_map (e ▸ he) h.cw.blk
  have hblk : w2.heap[g]? = some (.cells #[d.x.c0, d.x.c1, d.x.c2, d.x.c3, d.x.vP, d.x.vW, .int .i64 0, v, .map (some d.x.bG), d.y.vC] 73 (0, 0)) := by
    rw [hg.block g (by rw [hs1]; exact h.cw.lt) (fun e => hgb (by injection e)), hw1]
    have q1 := heap_setCell_same w g 6 _ 73 (.int .i64 0) h.cw.blk
    have q2 := heap_setCell_same _ g 7 _ 73 v q1
    exact q2.trans rfl
  have other : ∀ {sz : Nat} {e : TypeId} {v' : Value} {n : Nat} {f' : Nat → List Value}, OL sz e w v' n f' → e ≠ 73 → OL sz e w2 v' n f' := by
    intro sz e v' n f' ho h2
    exact ho.stay fun b hb => keep b (ho.lt hb) (fun e' => ho.neB h.cw.blk h2 (by rw [hb, e'])) (fun e' => ho.neM h.cw.sig (by rw [hb, e']))
  have mp : ∀ {K E : TypeId} {b k : Nat} {m : Value → Option Int}, MapF Try.prog K E w b k m → b ≠ d.x.bG → MapF Try.prog K E w2 b k m := by
    intro K E b k m hm hne
    refine hm.stay (keep _ hm.lt (fun e' => ?_) hne)
    obtain ⟨es, cl, he⟩ := hm.isMap
    rw [e', h.cw.blk] at he
    cases he
  refine ⟨{ cw := { blk := hblk, parts := other h.cw.parts (by decide), whole := other h.cw.whole (by decide), eqs := other h.cw.eqs (by decide), spots := other hol (by decide), uses := fun i hi => absurd hi (Nat.not_lt_zero _), claims := ?_, sig := by show MapF _ _ _ _ _ 0 (sgF (fun _ => none)); rw [sgF_nothing]; exact hm, apart := fun i j hi => absurd hi (Nat.not_lt_zero _), apartW := fun i hi => absurd hi (Nat.not_lt_zero _), small := ⟨h.cw.small.1, Nat.zero_le _⟩ }, c2 := h.c2, c3 := h.c3, nodes := other h.nodes (by decide), args := fun i hi => other (h.args i hi) (by decide), heads := mp h.heads h.mne.2.1, pairs := mp h.pairs h.mne.2.2, mne := h.mne, ap1 := h.ap1, ap2 := fun i hi j hj => absurd hj (Nat.not_lt_zero _) }, ?_, ?_⟩
  · have := h.cw.claims
    rw [hcl] at this
    exact other this (by decide)
  · refine ⟨?_, ?_, ?_, ?_, fun b hb hn => keep b hb (fun e' => hn (Or.inl (Or.inr (Or.inl e')))) (fun e' => hn (Or.inr (Or.inr (Or.inr (Or.inl e')))))⟩
    · rw [hg.os, hw1]; rfl
    · rw [hg.tape, hw1]; rfl
    · rw [hg.output, hw1]; rfl
    · have := hg.size; omega
  · rintro b (hb | hb | hb)
    · exact Or.inl hb
    · exact Or.inr (Or.inl hb)
    · right; right
      rcases hb with hb | hb | hb | hb | ⟨i, hi, _⟩
      · exact Or.inl hb
      · exact Or.inr (Or.inl hb)
      · exact Or.inr (Or.inr (Or.inl (hv ▸ hb)))
      · exact Or.inr (Or.inr (Or.inr (Or.inl hb)))
      · exact absurd hi (Nat.not_lt_zero _)
theorem inv0 {np : Nat} {P : Nat → Part} (hp : PartsOk np P) (S : Nat → Spot) : Inv np P 0 S (fun _ => none) [] [] :=
  { parts := hp, le := Nat.zero_le _, lt := fun i hi => absurd hi (Nat.not_lt_zero _), rep := fun i hi => absurd hi (Nat.not_lt_zero _), ring := fun i hi => absurd hi (Nat.not_lt_zero _), ups := fun i hi => absurd hi (Nat.not_lt_zero _), upc := fun i hi => absurd hi (Nat.not_lt_zero _), use1 := fun i hi => absurd hi (Nat.not_lt_zero _), use2 := fun i hi => absurd hi (Nat.not_lt_zero _), useN := Nat.le_refl _, sg1 := fun k q h => (by cases h), sg2 := fun i hi => absurd hi (Nat.not_lt_zero _), cls := fun c hc => (by cases hc) }
theorem fok_cut {f : Fx} (h : FOk f) {n : Nat} (hn : n ≤ f.ne) : FOk { f with ne := n } := ⟨h.parts, h.whole, fun k hk => h.eqs k (Nat.lt_of_lt_of_le hk hn)⟩
theorem dB_sem (hs : GSem d) (v : Value) {n : Nat} (hn : n ≤ d.f.ne) (hm : d.m ≤ n) : GSem (dB d v n) := by
  have t' : TOk { d.f with ne := n } d.t none := { hs.ok.t with }
  obtain ⟨H, hH⟩ := hs.sem.hist
  exact ⟨{ t := t', f := fok_cut hs.ok.f hn, cl := hs.ok.cl, inv := hs.ok.inv, m := hm }, ⟨hm, hs.sem.eqs, hs.sem.sound, hs.sem.least, H, hH.grow (f' := { d.f with ne := n }) hs.ok.f hs.ok.m hs.ok.inv.le (fun _ _ => rfl) (fun _ _ => rfl) (fun _ _ => rfl)⟩⟩
theorem dBF_sem (hs : GSem d) (v u : Value) {n : Nat} (hn : n ≤ d.f.ne) : GSem (dF (dB d v n) u) := by
  have t' : TOk { d.f with ne := n } d.t none := { hs.ok.t with }
  exact ⟨{ t := t', f := fok_cut hs.ok.f hn, cl := rfl, inv := inv0 hs.ok.f.parts _, m := Nat.zero_le _ }, Sem.none _ _ rfl⟩
end
theorem OL.cut {sz : Nat} {e : TypeId} {w : World} {v : Value} {n : Nat} {f : Nat → List Value} (h : OL sz e w v n f) : (v = .slice none 0 0 ∧ n = 0) ∨ ∃ g cap, v = .slice (some ⟨g, 0, none⟩) n cap ∧ n ≤ cap ∧ ∀ m, m ≤ n → OL sz e w (.slice (some ⟨g, 0, none⟩) m cap) m f := by
  rcases h with h | ⟨g, cap, cur, rfl, hg, k1, k2, k3, k4⟩
  · exact Or.inl h
  · exact Or.inr ⟨g, cap, rfl, k1, fun m hm => Or.inr ⟨g, cap, cur, rfl, hg, by omega, k2, k3, fun i hi j hj => k4 i (by omega) j hj⟩⟩
/-- What 'forget' leaves. -/
def ForgetEnd (g : Nat) (d : Gd) (w w' : World) : Prop := ∃ v, GW w' g (dF d v) ∧ Mv (Fg g d) w w' ∧ ∀ b, Fg g (dF d v) b → Fg g d b

set_option maxRecDepth 20000 in
set_option maxHeartbeats 8000000 in
theorem forget_any (g : Nat) (d : Gd) (w : World) (h : GW w g d) (hcl : d.s.cl = []) :
    Calls Try.prog 42 #[.pointer (some ⟨g, 0, none⟩)] w fun e w' => e = .returned (.tuple #[]) ∧ ForgetEnd g d w w' := by
  have HCL : Hid (d.s.cl = []) := hcl
  have HG : Hid (GW w g d) := h
  obtain ⟨-, -, -, -, -, -, c6, c7, c8, -⟩ := h.cw.cells
  have hgl := h.cw.lt
  have z6 := h.cw.frozen 6
  have z7 := h.cw.frozen 7
  have hsm := h.cw.small
  obtain ⟨v, ⟨HV, hV⟩⟩ : ∃ v, Hid (v.ownBlock = d.y.vS.ownBlock ∧ OL 7 86 w v 0 (spotC d.s.S d.y.au)) ∧ ((d.y.vS = .slice none 0 0 ∧ v = .slice none 0 0) ∨ ∃ gs cap, d.y.vS = .slice (some ⟨gs, 0, none⟩) d.s.ns cap ∧ v = .slice (some ⟨gs, 0, none⟩) 0 cap ∧ d.s.ns ≤ cap) := by
    rcases h.cw.spots.cut with ⟨e1, e2⟩ | ⟨gs, cap, e1, e2, e3⟩
    · exact ⟨.slice none 0 0, ⟨by rw [e1], OL.nil _ _ _ _⟩, Or.inl ⟨e1, rfl⟩⟩
    · exact ⟨.slice (some ⟨gs, 0, none⟩) 0 cap, ⟨by rw [e1]; rfl, e3 0 (Nat.zero_le _)⟩, Or.inr ⟨gs, cap, e1, rfl, e2⟩⟩
  have hblk1 : ((w.setCell ⟨g, 6, none⟩ (.int .i64 0)).setCell ⟨g, 7, none⟩ v).heap[d.x.bG]? = w.heap[d.x.bG]? := by
    obtain ⟨es, cl, he⟩ := h.cw.sig.isMap
    have hgb : d.x.bG ≠ g := fun e => blk_map (e ▸ he) h.cw.blk
    rw [heap_setCell_other _ ⟨g, 7, none⟩ _ v hgb, heap_setCell_other w ⟨g, 6, none⟩ _ _ hgb]
  obtain ⟨w2, hrun, hm2, ht2⟩ := (h.cw.sig.stay hblk1).clear uSig 0
  have HF : Hid _ := HG.out.cleared HV.out.1 HV.out.2 hcl rfl ht2 hm2
  have HRUN : Hid _ := hrun
  clear h hcl hm2 ht2 hblk1 hrun
  go_enter Try.func42, Try.ntmps42
  rcases hV with ⟨e1, rfl⟩ | ⟨gs, cap, e1, rfl, e2⟩
  · rw [e1] at c7
    clear e1
    go_wp2
    rw [HRUN.out]
    go_wp2
    go_end0
    exact ⟨rfl, _, HF.out⟩
  · rw [e1] at c7
    clear e1
    go_wp2
    rw [HRUN.out]
    go_wp2
    go_end0
    exact ⟨rfl, _, HF.out⟩
/-- What 'Back' leaves. -/
def BackEnd (g : Nat) (d : Gd) (n : Nat) (w w' : World) : Prop := ∃ d', GW w' g d' ∧ GSem d' ∧ d'.t = d.t ∧ d'.f = { d.f with ne := n } ∧ d'.ag = d.ag ∧ Mv (Fg g d) w w' ∧ ∀ b, Fg g d' b → Fg g d b

set_option maxRecDepth 20000 in
set_option maxHeartbeats 8000000 in
theorem Back_bad (g : Nat) (d : Gd) (n : Int) (w : World) (h : GW w g d) (hn : n < 0 ∨ (d.f.ne : Int) < n) :
    Calls Try.prog 31 #[.pointer (some ⟨g, 0, none⟩), .int .i64 n] w fun e w' => e = .returned (.int .i64 1) ∧ Below w.heap.size w w' := by
  obtain ⟨-, c1, -, -, -, -, -, -, -, -⟩ := h.cw.cells
  obtain ⟨an, cn, hvn, -, -, -, -⟩ := h.cw.eqs.shape
  rw [hvn] at c1
  have hgl := h.cw.lt
  clear h hvn
  go_enter Try.func31, Try.ntmps31
  by_cases h0 : n < 0
  · clear hn
    go_wp2
    refine bodyPost_ret (v := .int .i64 1) (by simp [results, Try.results31, go_sem]) rfl ?_
    exact ⟨rfl, Below.refl _ _⟩
  · replace hn := hn.resolve_left h0
    go_wp2
    refine bodyPost_ret (v := .int .i64 1) (by simp [results, Try.results31, go_sem]) rfl ?_
    exact ⟨rfl, Below.refl _ _⟩

set_option maxRecDepth 20000 in
set_option maxHeartbeats 8000000 in
theorem Back_any (g : Nat) (d : Gd) (n : Nat) (w : World) (h : GW w g d) (hk : GSem d) (hn : n ≤ d.f.ne) :
    Calls Try.prog 31 #[.pointer (some ⟨g, 0, none⟩), .int .i64 (n : Nat)] w fun e w' => e = .returned (.int .i64 0) ∧ BackEnd g d n w w' := by
  have HK : Hid (GSem d) := hk
  have HN : Hid (n ≤ d.f.ne) := hn
  obtain ⟨-, c1, -, -, -, -, c6, -, -, -⟩ := h.cw.cells
  have hgl := h.cw.lt
  have z1 := h.cw.frozen 1
  have h0 : ¬ ((n : Int) < 0) := by omega
  have h1 : ¬ ((d.f.ne : Int) < (n : Int)) := by omega
  obtain ⟨v, ⟨HV, hV⟩⟩ : ∃ v, Hid (v.ownBlock = d.x.c1.ownBlock ∧ OL 3 88 w v n (eqC d.f.E)) ∧ ((d.x.c1 = .slice none 0 0 ∧ d.f.ne = 0 ∧ v = .slice none 0 0) ∨ ∃ gs cap, d.x.c1 = .slice (some ⟨gs, 0, none⟩) d.f.ne cap ∧ v = .slice (some ⟨gs, 0, none⟩) n cap ∧ d.f.ne ≤ cap) := by
    rcases h.cw.eqs.cut with ⟨e1, e2⟩ | ⟨gs, cap, e1, e2, e3⟩
    · obtain rfl : n = 0 := by omega
      exact ⟨.slice none 0 0, ⟨by rw [e1], OL.nil _ _ _ _⟩, Or.inl ⟨e1, e2, rfl⟩⟩
    · exact ⟨.slice (some ⟨gs, 0, none⟩) n cap, ⟨by rw [e1]; rfl, e3 n hn⟩, Or.inr ⟨gs, cap, e1, rfl, e2⟩⟩
  have HG : Hid _ := h.setEqs HV.out.1 HV.out.2
  have hg6 : (w.setCell ⟨g, 1, none⟩ v).cell? ⟨g, 6, none⟩ = some (.int .i64 (d.m : Nat)) := HG.out.1.cw.cells.2.2.2.2.2.2.1
  clear h hk
  go_enter Try.func31, Try.ntmps31
  by_cases hm : n < d.m
  · have hmI : (n : Int) < (d.m : Int) := by omega
    rcases hV with ⟨e1, e2, rfl⟩ | ⟨gs, cap, e1, rfl, e2⟩
    · exfalso
      have := HK.out.ok.m
      omega
    · rw [e1] at c1
      have hcn : n ≤ cap := by omega
      have hcnI : (n : Int) ≤ (cap : Int) := by omega
      clear e1
      go_wp2_with fail
      refine (forget_any g (dB d _ n) _ HG.out.1 HK.out.ok.cl).mono ?_
      rintro e w2 ⟨rfl, u, k1, k2, k3⟩
      have HF : Hid _ := And.intro k1 (And.intro k2 k3)
      clear k1 k2 k3
      go_wp2
      refine bodyPost_ret (v := .int .i64 0) (by simp [results, Try.results31, go_sem]) rfl ?_
      obtain ⟨k1, k2, k3⟩ := HF.out
      obtain ⟨j1, j2, j3⟩ := HG.out
      exact ⟨rfl, _, k1, dBF_sem HK.out _ _ HN.out, rfl, rfl, rfl, j2.trans k2 (fun b hb => Or.inl (j3 b hb)), fun b hb => j3 b (k3 b hb)⟩
  · have hmI : ¬ ((n : Int) < (d.m : Int)) := by omega
    have HMN : Hid (d.m ≤ n) := by show _ ≤ _; omega
    rcases hV with ⟨e1, e2, rfl⟩ | ⟨gs, cap, e1, rfl, e2⟩
    · rw [e1] at c1
      obtain rfl : n = 0 := by omega
      rw [e2] at h1
      clear e1
      go_wp2
      refine bodyPost_ret (v := .int .i64 0) (by simp [results, Try.results31, go_sem]) rfl ?_
      obtain ⟨j1, j2, j3⟩ := HG.out
      exact ⟨rfl, _, j1, dB_sem HK.out _ HN.out HMN.out, rfl, rfl, rfl, j2, j3⟩
    · rw [e1] at c1
      have hcn : n ≤ cap := by omega
      have hcnI : (n : Int) ≤ (cap : Int) := by omega
      clear e1
      go_wp2
      refine bodyPost_ret (v := .int .i64 0) (by simp [results, Try.results31, go_sem]) rfl ?_
      obtain ⟨j1, j2, j3⟩ := HG.out
      exact ⟨rfl, _, j1, dB_sem HK.out _ HN.out HMN.out, rfl, rfl, rfl, j2, j3⟩
end Euf
end Go.Proofs.Ytmnpefiaelpkfac
