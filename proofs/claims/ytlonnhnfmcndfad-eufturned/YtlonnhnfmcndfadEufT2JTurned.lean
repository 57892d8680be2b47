/- A second graph beside the first, and the document's lists; no statement of the seat is proved here. -/
import Derived.Test.YtlonnhnfmcndfadEufGrJTurned
namespace Go.Proofs.Ytlonnhnfmcndfad
open Go.RowKit
set_option linter.unusedVariables false
namespace Euf
theorem TOk.Ninj {f : Fx} {t : Tx} {ex : Option Lab} (h : TOk f t ex) {a b : Nat} (ha : a < t.nn) (hb : b < t.nn) (e : t.N a = t.N b) : a = b := by
  refine h.Winj ha hb (h.inj _ _ (h.whole a ha).1 (h.whole b hb).1 ?_)
  rw [(h.whole a ha).2.1, (h.whole b hb).2.1, e]
/-- What is in a played script was in the script. -/
theorem playK_mem (ops : List OpS) : ∀ (k : Nat) (x : ByteArray × List Nat), x ∈ (playK ops k).1 → ∃ i, (ops.getD i noOp).zs.length ≤ 20 ∧ x.1 = (ops.getD i noOp).fn
  | 0, x, h => by cases h
  | k + 1, x, h => by
    unfold playK at h
    split at h
    · rename_i h20
      generalize ho : ops.getD k noOp = o at h h20
      unfold stepA at h
      have ih := playK_mem ops k x
      split at h
      · split at h
        · split at h
          · exact ih h
          · simp only [List.mem_append, List.mem_singleton] at h
            rcases h with h | h
            · exact ih h
            · exact ⟨k, by rw [ho]; exact h20, by rw [ho, h]⟩
        · exact ih h
      · split at h
        · split at h
          · exact ih h
          · exact ih h
        · split at h
          · split at h
            · exact ih h
            · exact ih h
          · exact ih h
    · exact playK_mem ops k x h
theorem Scr.fn {w : World} {aS : Option Addr} {ops : List OpS} (h : Scr w aS ops) (i : Nat) (h20 : (ops.getD i noOp).zs.length ≤ 20) : (ops.getD i noOp).fn.size ≤ maxLen := by
  by_cases hi : i < ops.length
  · obtain ⟨b, off, aZ, cZ, -, -, -, -, -, -, -, hok⟩ := h.at_ i hi
    exact (hok h20).fn
  · have : ops.getD i noOp = noOp := by rw [List.getD_eq_getElem?_getD, List.getElem?_eq_none (by omega)]; rfl
    rw [this]
    exact Nat.zero_le _
theorem Abs.fn {w : World} {aS : Option Addr} {ops : List OpS} (h : Scr w aS ops) {d : Gd} (hA : Abs d (playA ops)) {i : Nat} (hi : i < d.t.nn) : (d.t.N i).1.size ≤ maxLen := by
  have hm : d.t.N i ∈ (playA ops).1 := (hA.mem _).2 ⟨i, hi, rfl⟩
  obtain ⟨j, h1, h2⟩ := playK_mem ops _ _ hm
  rw [h2]
  exact h.fn j h1
theorem OL.seg {w : World} {ao : Option Addr} {cap : Nat} {l : List Nat} (h : OL 1 3 w (.slice ao l.length cap) l.length (natC l)) : Seg .i64 w ao l := by
  rcases Nat.eq_zero_or_pos l.length with e | e
  · exact Or.inl (List.eq_nil_of_length_eq_zero e)
  · obtain ⟨g, c, hv, -, -⟩ := h.open 0 e
    injection hv with h1 h2 h3
    subst h1 h3
    refine Or.inr ⟨g, 0, rfl, fun i hi => ?_⟩
    have := h.cell (i := i) hi (j := 0) (by omega)
    simp only [Nat.mul_one, Nat.add_zero] at this
    rw [Nat.zero_add, this]
    rfl
theorem Cong.turn {nn : Nat} {N N' : Nat → ByteArray × List Nat} {E E' : Nat → Nat → Prop} (hN : ∀ i, i < nn → N' i = N i) (hE : ∀ x y, E x y → E' y x) {a b : Nat} (h : Cong nn N E a b) : Cong nn N' E' a b := by
  induction h with
  | refl a => exact .refl a
  | symm _ ih => exact ih.symm
  | trans _ _ ih1 ih2 => exact ih1.trans ih2
  | eq h => exact (Cong.eq (hE _ _ h)).symm
  | args ha hb h1 h2 _ ih =>
    refine .args ha hb (by rw [hN _ ha, hN _ hb]; exact h1) (by rw [hN _ ha, hN _ hb]; exact h2) ?_
    rw [hN _ ha, hN _ hb]
    exact ih
theorem Least.turn {nn : Nat} {N N' : Nat → ByteArray × List Nat} {E E' : Nat → Nat → Prop} (hN : ∀ i, i < nn → N' i = N i) (hE : ∀ x y, E x y → E' y x) (hE' : ∀ x y, E' x y → E y x) {a r : Nat} (h : Least nn N E a r) : Least nn N' E' a r :=
  ⟨h.1, h.2.1.turn hN hE, fun b hb hc => h.2.2 b hb (hc.turn (fun i hi => (hN i hi).symm) hE')⟩
/-- The equations turned about, the last first. -/
def TurnE (f f' : Fx) (k : Nat) : Prop := ∀ j, j < k → (f'.E j).1 = (f.E (f.ne - 1 - j)).2.1 ∧ (f'.E j).2.1 = (f.E (f.ne - 1 - j)).1
theorem TurnE.to {f f' : Fx} (h : TurnE f f' f.ne) (hn : f'.ne = f.ne) : ∀ x y, EqOf f x y → EqOf f' y x := by
  rintro x y ⟨k, hk, e1, e2⟩
  have := h (f.ne - 1 - k) (by omega)
  rw [show f.ne - 1 - (f.ne - 1 - k) = k from by omega] at this
  exact ⟨f.ne - 1 - k, by omega, by rw [this.1]; exact e2, by rw [this.2]; exact e1⟩
theorem TurnE.from {f f' : Fx} (h : TurnE f f' f.ne) (hn : f'.ne = f.ne) : ∀ x y, EqOf f' x y → EqOf f y x := by
  rintro x y ⟨k, hk, e1, e2⟩
  have := h k (by omega)
  exact ⟨f.ne - 1 - k, by omega, by rw [← this.2]; exact e2, by rw [← this.1]; exact e1⟩
/-- Blocks of others are written. -/
theorem Lw.away {w0 wr : World} {g : Nat} {d d0 : Gd} {vN vE : Value} {rg : Nat → Value} {bW : Nat} {vL : Value} {k : Nat} {lf : Nat → Nat} (h : Lw w0 wr g d d0 vN vE rg bW vL k lf) {w' : World} {F : Nat → Prop} (hM : Mv F wr w') (hF : ∀ b, F b → ¬ Fh g d b ∧ b ≠ bW ∧ ¬ Fz vN vE rg d0.t.nn b ∧ vL.ownBlock ≠ some b ∧ w0.heap.size ≤ b) : Lw w0 w' g d d0 vN vE rg bW vL k lf :=
  { h with gw := h.gw.keep (fun b hb => hM.other b (h.gw.hlt hb) (fun hf => (hF b hf).1 hb)), r := h.r.keep (fun b hb => hM.other b (h.r.lt hb) (fun hf => (hF b hf).2.2.1 hb)), bw := blk_mv h.bw hM (fun hf => (hF _ hf).2.1 rfl), list := h.list.stay (fun b hb => hM.other b (h.list.lt hb) (fun hf => (hF b hf).2.2.2.1 hb)), bel := h.bel.trans (hM.toBelow h.bel.size (fun b hb => (hF b hb).2.2.2.2)) }
/-- Two graphs and the document's lists. -/
structure L2 (w0 wr : World) (g : Nat) (d : Gd) (q : Nat) (dh d0 : Gd) (vN vE : Value) (rg : Nat → Value) (bW : Nat) : Prop where
  lw : Lw w0 wr g d d0 vN vE rg bW (.slice none 0 0) 0 (fun _ => 0)
  gw : GW wr q dh
  sem : GSem dh
  ap : ∀ b, Fh q dh b → ¬ Fh g d b ∧ b ≠ bW ∧ ¬ Fz vN vE rg d0.t.nn b ∧ w0.heap.size ≤ b
section
variable {w0 wr w' : World} {g : Nat} {d d' : Gd} {q : Nat} {dh dh' d0 : Gd} {vN vE : Value} {rg : Nat → Value} {bW : Nat}
theorem L2.below (h : L2 w0 wr g d q dh d0 vN vE rg bW) (hb : Below wr.heap.size wr w') : L2 w0 w' g d q dh d0 vN vE rg bW := { h with lw := h.lw.below hb, gw := h.gw.below hb }
theorem L2.mvG (h : L2 w0 wr g d q dh d0 vN vE rg bW) {F : Nat → Prop} (hM : Mv F wr w') (hF : ∀ b, F b → Fh g d b) (hG : GW w' g d') (hs : GSem d') (h1 : ∀ b, Fh g d' b → Fh g d b ∨ wr.heap.size ≤ b) : L2 w0 w' g d' q dh d0 vN vE rg bW := by
  refine { lw := h.lw.mv hM hF hG hs h1, gw := h.gw.keep (fun b hb => hM.other b (h.gw.hlt hb) (fun hf => (h.ap b hb).1 (hF b hf))), sem := h.sem, ap := fun b hb => ⟨fun hf => ?_, (h.ap b hb).2⟩ }
  rcases h1 b hf with h9 | h9
  · exact (h.ap b hb).1 h9
  · have := h.gw.hlt hb; omega
theorem L2.mvH (h : L2 w0 wr g d q dh d0 vN vE rg bW) {F : Nat → Prop} (hM : Mv F wr w') (hF : ∀ b, F b → Fh q dh b) (hG : GW w' q dh') (hs : GSem dh') (h1 : ∀ b, Fh q dh' b → Fh q dh b ∨ wr.heap.size ≤ b) : L2 w0 w' g d q dh' d0 vN vE rg bW := by
  refine { lw := h.lw.away hM (fun b hb => ⟨(h.ap b (hF b hb)).1, (h.ap b (hF b hb)).2.1, (h.ap b (hF b hb)).2.2.1, (fun e => by cases e), (h.ap b (hF b hb)).2.2.2⟩), gw := hG, sem := hs, ap := fun b hb => ?_ }
  rcases h1 b hb with h9 | h9
  · exact h.ap b h9
  · refine ⟨fun hf => ?_, fun e => ?_, fun hf => ?_, ?_⟩
    · have := h.lw.gw.hlt hf; omega
    · have := h.lw.bw.lt; omega
    · have := h.lw.r.lt hf; omega
    · have := h.lw.bel.size; omega
/-- A node at the second graph. -/
theorem node_l2 (h : L2 w0 wr g d q dh d0 vN vE rg bW) {k : Nat} (hk : k < d0.t.nn) (h0 : GSem d0) (hal : (d0.t.N k).2.length ≤ 20) (hfn : (d0.t.N k).1.size ≤ maxLen) (hnn : dh.t.nn = k) (hN : ∀ i, i < k → dh.t.N i = d0.t.N i) (hnp : dh.f.np ≤ 21 * k) (hk6 : k ≤ 60) {aZ : Option Addr} {cZ : Nat} (hr : rg k = .slice aZ (d0.t.N k).2.length cZ) :
    Calls Try.prog 10 #[.pointer (some ⟨q, 0, none⟩), .string (d0.t.N k).1, .slice aZ (d0.t.N k).2.length cZ] wr fun e w' => ∃ v dh', e = .returned v ∧ L2 w0 w' g d q dh' d0 vN vE rg bW ∧ dh'.t.nn = k + 1 ∧ (∀ i, i < k + 1 → dh'.t.N i = d0.t.N i) ∧ dh'.f.ne = dh.f.ne ∧ dh'.f.np ≤ 21 * (k + 1) := by
  have ha := h.lw.r.args k hk
  rw [hr] at ha
  refine (Node_all q dh (d0.t.N k).1 (d0.t.N k).2 aZ cZ wr h.gw h.sem.ok.t hfn (by omega) ha.seg (fun _ b off e hf => ?_) (fun b hb => ?_) (by omega) (by omega)).mono ?_
  · refine (h.ap b (fn_fh hf)).2.2.1 (Or.inr (Or.inr ⟨k, hk, ?_⟩))
    rw [hr, e]
    obtain ⟨a1, c1, e1, -, -, -, e5⟩ := ha.shape
    injection e1 with e1
    rw [← e1] at e5
    have := e5 _ e
    simp at this
    subst this
    rfl
  · rw [hnn]; exact h0.ok.t.args k hk b hb
  rintro e w' ⟨r, rfl, hend⟩
  rcases hend with ⟨h1, h2, _⟩ | ⟨_, _, d', hg, hG, hM, hF, hag⟩
  · exfalso
    rw [hnn] at h1
    rw [hN r h1] at h2
    have := h0.ok.t.Ninj (show r < d0.t.nn by omega) hk h2
    omega
  · refine ⟨_, d', rfl, h.mvH hM (fun b hb => fn_fh hb) hG (hg.sem h.sem) (hg.fh hF hag), by rw [hg.nn, hnn], fun i hi => ?_, hg.ne.1, by have := hg.np.2; omega⟩
    rw [hg.N, hnn]
    by_cases e : i = k
    · subst e; rw [upd_same]
    · rw [upd_other _ _ e]; exact hN i (by omega)
theorem equal_l2 (h : L2 w0 wr g d q dh d0 vN vE rg bW) (h0 : GSem d0) (hnn : dh.t.nn = d0.t.nn) (hn6 : d0.t.nn ≤ 60) {p : Nat} (hp : p < d0.f.ne) (he6 : d0.f.ne ≤ 60) (hne : dh.f.ne = d0.f.ne - 1 - p) (hT : TurnE d0.f dh.f (d0.f.ne - 1 - p)) :
    Calls Try.prog 11 #[.pointer (some ⟨q, 0, none⟩), .int .i64 ((d0.f.E p).2.1 : Nat), .int .i64 ((d0.f.E p).1 : Nat)] wr fun e w' => ∃ v dh', e = .returned v ∧ L2 w0 w' g d q dh' d0 vN vE rg bW ∧ dh'.t = dh.t ∧ dh'.f.ne = d0.f.ne - p ∧ TurnE d0.f dh'.f (d0.f.ne - p) := by
  have he := h0.ok.f.eqs p hp
  rw [h0.ok.t.nw] at he
  have ha : (d0.f.E p).2.1 < dh.t.nn := by rw [hnn]; exact he.2.1
  have hb : (d0.f.E p).1 < dh.t.nn := by rw [hnn]; exact he.1
  refine (Equal_any q dh _ _ wr h.gw ha hb (by omega) (by omega)).mono ?_
  rintro e w' ⟨rfl, v', hG, hM, hF⟩
  refine ⟨_, _, rfl, h.mvH hM (fun b hb => Or.inl hb) hG (dE_sem h.sem ha hb) (dE_fh hF), rfl, by show dh.f.ne + 1 = _; omega, fun j hj => ?_⟩
  show (upd dh.f.E dh.f.ne _ j).1 = _ ∧ (upd dh.f.E dh.f.ne _ j).2.1 = _
  by_cases e : j = dh.f.ne
  · subst e
    rw [upd_same, hne, show d0.f.ne - 1 - (d0.f.ne - 1 - p) = p from by omega]
    exact ⟨rfl, rfl⟩
  · rw [upd_other _ _ e]; exact hT j (by omega)
end
end Euf
end Go.Proofs.Ytlonnhnfmcndfad
